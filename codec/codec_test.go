package codec_test

import (
	"encoding/binary"
	"encoding/hex"
	"errors"
	"math"
	"math/big"
	"math/rand"
	"strings"
	"testing"
	"unsafe"

	"cartulary/api"
	"cartulary/codec"
)

// tableErrors are the errors of the document's table, in its order.
func tableErrors() []error {
	return []error{
		api.ErrNil, api.ErrArg, api.ErrInput, api.ErrLimit, api.ErrRange, api.ErrGone, api.ErrUnavailable, api.ErrDead,
		api.ErrCorrupt, api.ErrProof, api.ErrSpent, api.ErrSigned, api.ErrFork, api.ErrOld, api.ErrStopped, api.ErrScript,
	}
}

// want: an error of the table, or none (nil), and the place of an ErrInput.
type want struct {
	err error
	at  int
}

// checkError: got is the wanted error of the table and no other one; its place, if it tells one, is the wanted one.
func checkError(t *testing.T, what string, got error, w want) {
	t.Helper()
	if w.err == nil {
		if got != nil {
			t.Errorf("%s: got %v, want no error", what, got)
		}
		return
	}
	for _, e := range tableErrors() {
		if errors.Is(got, e) != (e == w.err) {
			t.Errorf("%s: got %v, want %v: errors.Is says %v of %v", what, got, w.err, errors.Is(got, e), e)
		}
	}
	var f *api.Fault
	switch found := errors.As(got, &f); {
	case found && f.At != w.at:
		t.Errorf("%s: got the place %d, want %d", what, f.At, w.at)
	case !found && w.err == api.ErrInput:
		t.Errorf("%s: got %v without a place, want %d", what, got, w.at)
	}
}

// fromHex: the bytes that the document writes in hexadecimal.
func fromHex(t *testing.T, s string) string {
	t.Helper()
	b, err := hex.DecodeString(strings.ReplaceAll(s, " ", ""))
	if err != nil {
		t.Fatal(err)
	}
	return string(b)
}

func edgeNumbers() []uint64 {
	ns := []uint64{0, 1, 2, 126, 127, 128, 129, 255, 256, 257, 300}
	for i := range 64 {
		p := uint64(1) << i
		ns = append(ns, p-1, p, p+1)
	}
	return append(ns, 1<<63-1, 1<<63, 1<<63+1, math.MaxUint64-1, math.MaxUint64)
}

// aHash: a hash each byte of which is another one.
func aHash(first byte) api.Hash {
	var h api.Hash
	for i := range h {
		h[i] = first + byte(i)
	}
	return h
}

// power: 256 to the power of width, of which no uint64 is wide enough at 8.
func power(width int) *big.Int {
	return new(big.Int).Exp(big.NewInt(256), big.NewInt(int64(width)), nil)
}

// P2.1

func TestNewWriterHasNoByte(t *testing.T) {
	w := codec.NewWriter()
	if w == nil {
		t.Fatal("NewWriter answered nil")
	}
	if s := w.Done(); s != "" {
		t.Errorf("a new writer has %x", s)
	}
}

func TestWritersShareNothing(t *testing.T) {
	a, b := codec.NewWriter(), codec.NewWriter()
	a.Var(5)
	b.Text("z")
	a.Var(6)
	if a.Done() != "\x05\x06" || b.Done() != "\x01z" {
		t.Errorf("two writers have %x and %x", a.Done(), b.Done())
	}
}

// P2.2

func TestVarPutExamples(t *testing.T) {
	for _, c := range []struct {
		n    uint64
		form string
	}{
		{0, "00"}, {1, "01"}, {127, "7f"}, {128, "80 01"}, {255, "ff 01"}, {300, "ac 02"}, {16383, "ff 7f"}, {16384, "80 80 01"},
		{1<<63 - 1, "ff ff ff ff ff ff ff ff 7f"}, {1 << 63, "80 80 80 80 80 80 80 80 80 01"},
		{math.MaxUint64, "ff ff ff ff ff ff ff ff ff 01"},
	} {
		w := codec.NewWriter()
		w.Var(c.n)
		if got, form := w.Done(), fromHex(t, c.form); got != form {
			t.Errorf("Var(%d) put %x, want %x", c.n, got, form)
		}
	}
}

func TestVarPutIsTheLibrarysForm(t *testing.T) {
	for _, n := range edgeNumbers() {
		w := codec.NewWriter()
		w.Var(n)
		if got, form := w.Done(), string(binary.AppendUvarint(nil, n)); got != form {
			t.Errorf("Var(%d) put %x, want %x", n, got, form)
		}
	}
}

func TestFixedPutExamples(t *testing.T) {
	for _, c := range []struct {
		n     uint64
		width int
		form  string
		err   error
	}{
		{258, 2, "01 02", nil}, {256, 1, "", api.ErrArg}, {0, 0, "", api.ErrArg}, {0, 9, "", api.ErrArg},
		{math.MaxUint64, 8, "ff ff ff ff ff ff ff ff", nil},
		{0, 1, "00", nil}, {255, 1, "ff", nil}, {0, 8, "00 00 00 00 00 00 00 00", nil}, {1, 3, "00 00 01", nil},
		{0x0102030405060708, 8, "01 02 03 04 05 06 07 08", nil}, {0x0102030405060708, 7, "", api.ErrArg},
		{0, -1, "", api.ErrArg}, {0, math.MinInt, "", api.ErrArg}, {0, math.MaxInt, "", api.ErrArg}, {math.MaxUint64, 0, "", api.ErrArg},
	} {
		w := codec.NewWriter()
		checkError(t, "Fixed", w.Fixed(c.n, c.width), want{err: c.err})
		if got, form := w.Done(), fromHex(t, c.form); got != form {
			t.Errorf("Fixed(%d, %d) put %x, want %x", c.n, c.width, got, form)
		}
	}
}

func TestFixedPutAtEachWidth(t *testing.T) {
	for width := -3; width <= 20; width++ {
		for _, n := range edgeNumbers() {
			value := new(big.Int).SetUint64(n)
			w := codec.NewWriter()
			w.Var(9)
			err := w.Fixed(n, width)
			w.Var(8)
			if width < 1 || width > 8 || value.Cmp(power(width)) >= 0 {
				checkError(t, "Fixed", err, want{err: api.ErrArg})
				if w.Done() != "\x09\x08" {
					t.Errorf("Fixed(%d, %d) put something: %x", n, width, w.Done())
				}
				continue
			}
			form := "\x09" + string(value.FillBytes(make([]byte, width))) + "\x08"
			if err != nil || w.Done() != form {
				t.Errorf("Fixed(%d, %d): %v, %x, want %x", n, width, err, w.Done(), form)
			}
		}
	}
}

func TestTextPut(t *testing.T) {
	long := strings.Repeat("\x00\xff\x80z", 5000)
	for _, c := range []struct{ s, form string }{
		{"ab", "\x02ab"}, {"", "\x00"}, {"\x00", "\x01\x00"}, {"\xff\xfe", "\x02\xff\xfe"}, {"é", "\x02\xc3\xa9"},
		{long[:127], "\x7f" + long[:127]}, {long[:128], "\x80\x01" + long[:128]}, {long, "\xa0\x9c\x01" + long},
	} {
		w := codec.NewWriter()
		w.Text(c.s)
		if got := w.Done(); got != c.form {
			t.Errorf("Text of %d bytes put %.20x.., want %.20x..", len(c.s), got, c.form)
		}
	}
}

func TestHashPut(t *testing.T) {
	for _, h := range []api.Hash{{}, aHash(1), aHash(200)} {
		w := codec.NewWriter()
		w.Hash(h)
		if got := w.Done(); got != string(h[:]) {
			t.Errorf("Hash(%x) put %x", h, got)
		}
	}
}

func TestDoneIsAllThatWasPutSoFar(t *testing.T) {
	w := codec.NewWriter()
	all := ""
	var seen []string
	for i := range 200 {
		h := aHash(byte(i))
		switch i % 4 {
		case 0:
			w.Var(uint64(i) * 1000)
			all += string(binary.AppendUvarint(nil, uint64(i)*1000))
		case 1:
			if err := w.Fixed(uint64(i), 2); err != nil {
				t.Fatal(err)
			}
			all += string([]byte{0, byte(i)})
		case 2:
			w.Text(strings.Repeat("x", i))
			all += string(binary.AppendUvarint(nil, uint64(i))) + strings.Repeat("x", i)
		case 3:
			w.Hash(h)
			all += string(h[:])
		}
		if w.Done() != all || w.Done() != all {
			t.Fatalf("step %d: Done answers %x, want %x", i, w.Done(), all)
		}
		seen = append(seen, w.Done())
	}
	for i, s := range seen { // what was answered earlier stays as it was
		if !strings.HasPrefix(all, s) || i > 0 && len(s) <= len(seen[i-1]) {
			t.Errorf("the answer %d of Done has changed: %x", i, s)
		}
	}
}

func TestDoneIsNewMemory(t *testing.T) {
	w := codec.NewWriter()
	w.Text("some text or other")
	a := w.Done()
	w.Var(7)
	b := w.Done()
	if unsafe.StringData(a) == unsafe.StringData(b) {
		t.Error("two answers of Done share memory")
	}
}

func TestWriterThatIsNotThere(t *testing.T) {
	var none *codec.Writer
	for _, w := range []*codec.Writer{none, {}, new(codec.Writer)} {
		w.Var(5)
		w.Text("ab")
		w.Hash(aHash(1))
		checkError(t, "Fixed", w.Fixed(5, 1), want{err: api.ErrNil})
		checkError(t, "Fixed of no width", w.Fixed(5, 0), want{err: api.ErrNil}) // ahead of ErrArg
		checkError(t, "Fixed of too great a number", w.Fixed(256, 1), want{err: api.ErrNil})
		if s := w.Done(); s != "" {
			t.Errorf("a writer that is not there has %x", s)
		}
	}
}

// P2.3

func TestNewReader(t *testing.T) {
	for _, s := range []string{"", "\x00", "abc", strings.Repeat("z", 70000)} {
		r := codec.NewReader(s)
		if r == nil {
			t.Fatal("NewReader answered nil")
		}
		if n := r.Left(); n != len(s) {
			t.Errorf("a new reader of %d bytes has %d left", len(s), n)
		}
		w := want{}
		if s != "" {
			w = want{api.ErrInput, 0}
		}
		checkError(t, "End of a new reader", r.End(), w)
	}
}

func TestReadersShareNothing(t *testing.T) {
	s := "\x01\x02\x03"
	a, b := codec.NewReader(s), codec.NewReader(s)
	a.Fixed(0)
	if n := b.Fixed(1); n != 1 || b.Left() != 2 {
		t.Errorf("a fault of one reader is told by another: %d, %d left", n, b.Left())
	}
	checkError(t, "End of the first", a.End(), want{err: api.ErrArg})
	checkError(t, "End of the second", b.End(), want{api.ErrInput, 1})
}

// P2.4 and P2.5. A step is a read with the answer that it should give, and what Left and End say behind it.
type step struct {
	name   string
	arg    int
	number uint64
	text   string
	hash   api.Hash
	left   int
	end    want
}

func (s step) run(t *testing.T, bytes string, r *codec.Reader) {
	t.Helper()
	switch s.name {
	case "Fixed":
		if n := r.Fixed(s.arg); n != s.number {
			t.Errorf("%.40x: Fixed(%d) answers %d, want %d", bytes, s.arg, n, s.number)
		}
	case "Var":
		if n := r.Var(); n != s.number {
			t.Errorf("%.40x: Var answers %d, want %d", bytes, n, s.number)
		}
	case "Text":
		if got := r.Text(s.arg); got != s.text {
			t.Errorf("%.40x: Text(%d) answers %q, want %q", bytes, s.arg, got, s.text)
		}
	case "Hash":
		if h := r.Hash(); h != s.hash {
			t.Errorf("%.40x: Hash answers %x, want %x", bytes, h, s.hash)
		}
	}
	s.check(t, bytes, r)
}

// check: Left and End tell what they should, however often they are asked.
func (s step) check(t *testing.T, bytes string, r *codec.Reader) {
	t.Helper()
	for range 2 {
		if n := r.Left(); n != s.left {
			t.Errorf("%.40x: behind %s Left is %d, want %d", bytes, s.name, n, s.left)
		}
		checkError(t, s.name+", End", r.End(), s.end)
	}
}

func TestReadExamples(t *testing.T) {
	limit, arg := want{err: api.ErrLimit}, want{err: api.ErrArg}
	input := func(at int) want { return want{api.ErrInput, at} }
	nines, noughts := strings.Repeat("ff", 9), strings.Repeat("80", 9)
	for _, c := range []struct {
		bytes string
		steps []step
	}{
		{"80 01", []step{{name: "Var", number: 128}}},
		{"07 80 00", []step{{name: "Fixed", arg: 1, number: 7, left: 2, end: input(1)}, {name: "Var", end: input(1)}}},
		{"80", []step{{name: "Var", end: input(0)}}},
		{nines + "02", []step{{name: "Var", end: input(0)}}},
		{nines + "01", []step{{name: "Var", number: math.MaxUint64}}},
		{noughts, []step{{name: "Var", end: input(0)}}},
		{noughts + "80", []step{{name: "Var", end: input(0)}}},
		{noughts + "01", []step{{name: "Var", number: 1 << 63}}},
		{"02 61 62 07", []step{{name: "Text", arg: 1, end: limit}, {name: "Fixed", arg: 1, end: limit}}},
		{"02 61 62 07", []step{{name: "Text", arg: 2, text: "ab", left: 1, end: input(3)}, {name: "Fixed", arg: 1, number: 7}}},
		{"03 61", []step{{name: "Text", arg: 9, end: input(0)}}},
		{"", []step{{name: "nothing"}, {name: "Hash", end: input(0)}}},
		{"05", []step{{name: "Fixed", arg: 0, end: arg}, {name: "Var", end: arg}}},
		{"05", []step{{name: "Text", arg: -1, end: arg}}},
	} {
		s := fromHex(t, c.bytes)
		r := codec.NewReader(s)
		for _, st := range c.steps {
			st.run(t, s, r)
		}
	}
}

func TestVarReadRefuses(t *testing.T) {
	for _, c := range []string{
		"", "80", "ff", "80 00", "81 00", "ff 00", "80 80", "80 80 00", "ff ff 00", "80 80 80 00 01",
		"80 80 80 80 80 80 80 80 00", "80 80 80 80 80 80 80 80 80 00", "ff ff ff ff ff ff ff ff ff 00",
		"80 80 80 80 80 80 80 80 80", "80 80 80 80 80 80 80 80 80 02", "80 80 80 80 80 80 80 80 80 7f",
		"80 80 80 80 80 80 80 80 80 80", "80 80 80 80 80 80 80 80 80 81", "80 80 80 80 80 80 80 80 80 81 00",
		"80 80 80 80 80 80 80 80 80 80 01", "80 80 80 80 80 80 80 80 80 81 01", "ff ff ff ff ff ff ff ff ff ff 01",
	} {
		for _, ahead := range []string{"", "\x00", "abc"} { // the place is where the number begins, not where its wrong byte stands
			s := ahead + fromHex(t, c)
			fault := step{name: "Var", end: want{api.ErrInput, len(ahead)}}
			r := skipped(s, len(ahead))
			fault.run(t, s, r)
			fault.name = "Text"
			fault.arg = math.MaxInt
			r = skipped(s, len(ahead))
			fault.run(t, s, r)
			fault.arg = 0 // a length without a form is told ahead of one above its limit
			r = skipped(s, len(ahead))
			fault.run(t, s, r)
		}
	}
}

// skipped: a reader of s that stands behind its first n bytes.
func skipped(s string, n int) *codec.Reader {
	r := codec.NewReader(s)
	for range n {
		r.Fixed(1)
	}
	return r
}

func TestVarReadOfAllShortBytes(t *testing.T) {
	for n := range 1 << 16 {
		for _, s := range []string{string([]byte{byte(n)}), string([]byte{byte(n >> 8), byte(n)})} {
			value, length := binary.Uvarint([]byte(s))
			if length > 1 && s[length-1] == 0 { // the library takes a group of noughts at the end: the document does not
				length = 0
			}
			r := codec.NewReader(s)
			got := r.Var()
			if length <= 0 {
				if got != 0 {
					t.Fatalf("Var of %x answers %d", s, got)
				}
				checkError(t, "Var", r.End(), want{api.ErrInput, 0})
				continue
			}
			if got != value || r.Left() != len(s)-length {
				t.Fatalf("Var of %x answers %d, %d left; want %d, %d left", s, got, r.Left(), value, len(s)-length)
			}
		}
	}
}

func TestFixedRead(t *testing.T) {
	bytes := "\x01\xfe\x03\xfc\x05\xfa\x07\xf8\x09"
	for width := 1; width <= 8; width++ {
		value := new(big.Int).SetBytes([]byte(bytes[:width])).Uint64()
		st := step{name: "Fixed", arg: width, number: value, left: 9 - width, end: want{api.ErrInput, width}}
		st.run(t, bytes, codec.NewReader(bytes))
		for short := range width {
			st := step{name: "Fixed", arg: width, end: want{api.ErrInput, 0}}
			st.run(t, bytes[:short], codec.NewReader(bytes[:short]))
		}
	}
	full := strings.Repeat("\xff", 8)
	step{name: "Fixed", arg: 8, number: math.MaxUint64}.run(t, full, codec.NewReader(full))
}

func TestFixedReadOfNoWidth(t *testing.T) {
	for _, width := range []int{math.MinInt, -8, -1, 0, 9, 10, 255, 264, math.MaxInt} {
		for _, s := range []string{"", "\x01", "0123456789"} { // ErrArg ahead of too few bytes
			step{name: "Fixed", arg: width, end: want{err: api.ErrArg}}.run(t, s, codec.NewReader(s))
		}
	}
}

func TestTextReadAtItsLimit(t *testing.T) {
	over := want{err: api.ErrLimit}
	for _, n := range []int{0, 1, 2, 127, 128, 300} {
		body := strings.Repeat("q", n)
		s := string(binary.AppendUvarint(nil, uint64(n))) + body
		for _, most := range []int{n, n + 1, math.MaxInt} {
			step{name: "Text", arg: most, text: body}.run(t, s, codec.NewReader(s))
		}
		if n > 0 {
			step{name: "Text", arg: n - 1, end: over}.run(t, s, codec.NewReader(s))
			step{name: "Text", arg: 0, end: over}.run(t, s, codec.NewReader(s))
			cut := s[:len(s)-1] // ErrLimit ahead of too few bytes
			step{name: "Text", arg: n - 1, end: over}.run(t, cut, codec.NewReader(cut))
			step{name: "Text", arg: n, end: want{api.ErrInput, 0}}.run(t, cut, codec.NewReader(cut))
		}
	}
}

func TestTextReadOfHugeLengths(t *testing.T) {
	for _, c := range []struct {
		length uint64
		most   int
		end    want
	}{
		{math.MaxUint64, math.MaxInt, want{err: api.ErrLimit}},
		{1 << 63, math.MaxInt, want{err: api.ErrLimit}},
		{1 << 63, 0, want{err: api.ErrLimit}},
		{1<<63 - 1, math.MaxInt, want{api.ErrInput, 1}}, // a place and so many bytes are above every int
		{1<<63 - 2, math.MaxInt, want{api.ErrInput, 1}},
		{1 << 32, math.MaxInt, want{api.ErrInput, 1}},
		{1 << 62, 1<<62 - 1, want{err: api.ErrLimit}},
	} {
		s := "\x07" + string(binary.AppendUvarint(nil, c.length)) + "abc"
		r := skipped(s, 1)
		step{name: "Text", arg: c.most, end: c.end}.run(t, s, r)
	}
}

func TestTextReadBelowNought(t *testing.T) {
	for _, s := range []string{"", "\x00", "\x80", "\x80\x00", "\x05ab"} { // ErrArg ahead of the others
		for _, most := range []int{-1, math.MinInt} {
			step{name: "Text", arg: most, end: want{err: api.ErrArg}}.run(t, s, codec.NewReader(s))
		}
	}
}

func TestTextReadIsNewMemory(t *testing.T) {
	s := string([]byte("\x05hello\x05world"))
	r := codec.NewReader(s)
	for at := 1; at < len(s); at += 6 {
		if got := r.Text(9); unsafe.StringData(got) == unsafe.StringData(s[at:]) {
			t.Error("a text that was read shares memory with the reader's own")
		}
	}
}

func TestHashRead(t *testing.T) {
	h, other := aHash(3), aHash(150)
	s := string(h[:]) + string(other[:]) + "x"
	r := codec.NewReader(s)
	step{name: "Hash", hash: h, left: 33, end: want{api.ErrInput, 32}}.run(t, s, r)
	step{name: "Hash", hash: other, left: 1, end: want{api.ErrInput, 64}}.run(t, s, r)
	step{name: "Hash", end: want{api.ErrInput, 64}}.run(t, s, r)
	for n := range 32 {
		step{name: "Hash", end: want{api.ErrInput, 0}}.run(t, s[:n], codec.NewReader(s[:n]))
	}
}

// everyRead: one step of each read, which answers zero and leaves that fault.
func everyRead(fault want) []step {
	var steps []step
	for _, width := range []int{1, 8, 0, 9, -1} {
		steps = append(steps, step{name: "Fixed", arg: width, end: fault})
	}
	for _, most := range []int{0, 9, -1} {
		steps = append(steps, step{name: "Text", arg: most, end: fault})
	}
	return append(steps, step{name: "Var", end: fault}, step{name: "Hash", end: fault})
}

func TestFaultStays(t *testing.T) {
	tail := strings.Repeat("\x01", 80) // what every read could read
	for _, c := range []struct {
		bytes string
		first step
	}{
		{"\x80\x00", step{name: "Var", end: want{api.ErrInput, 1}}},
		{"\x01\x01", step{name: "Fixed", arg: 0, end: want{err: api.ErrArg}}},
		{"\x01\x01", step{name: "Text", arg: -5, end: want{err: api.ErrArg}}},
		{"\x02\x01", step{name: "Text", arg: 1, end: want{err: api.ErrLimit}}},
		{"\x80\x00", step{name: "Text", arg: 500, end: want{api.ErrInput, 1}}},
		{"\xff\x01", step{name: "Text", arg: 500, end: want{api.ErrInput, 1}}}, // 255 bytes are more than there are
	} {
		s := "\x01" + c.bytes + tail
		r := skipped(s, 1)
		c.first.run(t, s, r)
		for _, st := range everyRead(c.first.end) {
			st.run(t, s, r)
		}
	}
	short := strings.Repeat("\x01", 31) // too few for a hash, enough for the others
	r := codec.NewReader(short)
	step{name: "Hash", end: want{api.ErrInput, 0}}.run(t, short, r)
	for _, st := range everyRead(want{api.ErrInput, 0}) {
		st.run(t, short, r)
	}
}

func TestFaultIsNotTheCallers(t *testing.T) {
	for _, r := range []*codec.Reader{codec.NewReader("ab"), skipped("\x01\x80", 1)} {
		r.Var()
		var f *api.Fault
		if err := r.End(); !errors.As(err, &f) {
			t.Fatal("no place", err)
		}
		at := f.At
		f.At, f.Err = 99, api.ErrDead // a caller may do so with its own answer
		checkError(t, "End", r.End(), want{api.ErrInput, at})
	}
}

func TestReaderThatIsNotThere(t *testing.T) {
	var none *codec.Reader
	for _, r := range []*codec.Reader{none, {}, new(codec.Reader)} {
		for _, st := range everyRead(want{err: api.ErrNil}) {
			st.run(t, "", r)
		}
	}
}

// P2.6

// thing is one of those that are put and read again.
type thing struct {
	kind   int // 0 Var, 1 Fixed, 2 Text, 3 Hash
	width  int
	number uint64
	text   string
	hash   api.Hash
}

func (x thing) put(t *testing.T, w *codec.Writer) {
	t.Helper()
	switch x.kind {
	case 0:
		w.Var(x.number)
	case 1:
		if err := w.Fixed(x.number, x.width); err != nil {
			t.Fatal(err)
		}
	case 2:
		w.Text(x.text)
	case 3:
		w.Hash(x.hash)
	}
}

// read: the thing that the same read answers.
func (x thing) read(r *codec.Reader, most int) thing {
	y := thing{kind: x.kind, width: x.width}
	switch x.kind {
	case 0:
		y.number = r.Var()
	case 1:
		y.number = r.Fixed(x.width)
	case 2:
		y.text = r.Text(most)
	case 3:
		y.hash = r.Hash()
	}
	return y
}

func someThings(rnd *rand.Rand, count int) []thing {
	var things []thing
	for range count {
		x := thing{kind: rnd.Intn(4)}
		switch x.kind {
		case 0:
			x.number = rnd.Uint64() >> rnd.Intn(65)
		case 1:
			x.width = 1 + rnd.Intn(8)
			x.number = rnd.Uint64() >> (64 - 8*x.width)
		case 2:
			b := make([]byte, []int{0, 1, 2, 5, 127, 128, 130}[rnd.Intn(7)])
			rnd.Read(b)
			x.text = string(b)
		case 3:
			rnd.Read(x.hash[:])
		}
		things = append(things, x)
	}
	return things
}

func putAll(t *testing.T, things []thing) string {
	t.Helper()
	w := codec.NewWriter()
	for _, x := range things {
		x.put(t, w)
	}
	return w.Done()
}

func TestWhatWasPutIsRead(t *testing.T) {
	rnd := rand.New(rand.NewSource(2))
	for range 300 {
		things := someThings(rnd, rnd.Intn(12))
		s := putAll(t, things)
		r := codec.NewReader(s)
		for i, x := range things {
			if y := x.read(r, len(x.text)); y != x {
				t.Fatalf("the thing %d of %x was put as %v and read as %v", i, s, x, y)
			}
		}
		checkError(t, "End behind all", r.End(), want{})
		if r.Left() != 0 {
			t.Fatalf("%d bytes are left behind all", r.Left())
		}
	}
}

func TestCutBytesAreRefused(t *testing.T) {
	rnd := rand.New(rand.NewSource(3))
	for range 60 {
		things := someThings(rnd, 1+rnd.Intn(6))
		s := putAll(t, things)
		var begins []int // where each thing begins
		for i := range things {
			begins = append(begins, len(putAll(t, things[:i])))
		}
		for cut := range len(s) {
			r := codec.NewReader(s[:cut])
			at := 0 // the first thing that isn't all there
			for i, x := range things {
				end := len(putAll(t, things[:i+1]))
				y := x.read(r, len(x.text))
				if end <= cut && y != x {
					t.Fatalf("%x cut at %d: the thing %d is all there, and was read as %v", s, cut, i, y)
				}
				if end > cut && y != (thing{kind: x.kind, width: x.width}) {
					t.Fatalf("%x cut at %d: the thing %d was read as %v", s, cut, i, y)
				}
				if end <= cut {
					at = begins[i+1]
				}
			}
			checkError(t, "End of cut bytes", r.End(), want{api.ErrInput, at})
		}
	}
}

func TestThingsHaveOneForm(t *testing.T) {
	rnd := rand.New(rand.NewSource(4))
	taken := 0
	for range 200000 {
		b := make([]byte, rnd.Intn(13))
		for i := range b { // such bytes as numbers are made of, for the most part
			b[i] = []byte{0, 0x80, 0x81, 1, 2, 0xff, 0x7f, byte(rnd.Intn(256))}[rnd.Intn(8)]
		}
		s := string(b)
		r := codec.NewReader(s)
		var things []thing
		for r.Left() > 0 {
			x := thing{kind: rnd.Intn(3), width: 1 + rnd.Intn(8)}
			things = append(things, x.read(r, 20))
		}
		if r.End() != nil {
			continue
		}
		taken++
		if again := putAll(t, things); again != s {
			t.Fatalf("%x was read as %v, which is put as %x", s, things, again)
		}
	}
	if taken < 10000 {
		t.Errorf("only %d rows of reads ended with nil: too few to say anything", taken)
	}
}
