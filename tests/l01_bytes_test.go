package tests

import (
	"encoding/binary"
	"hash/crc32"
	"math"
	"math/rand"
	"strings"
	"testing"

	"loop.example/g00390/impl"
)

// The seed is fixed: a run that fails can be run again.
const seed = 20261117

func numSame(t *testing.T, what string, got impl.NumOut, want impl.NumOut) {
	t.Helper()
	if got != want {
		t.Errorf("%s: got %+v, want %+v", what, got, want)
	}
}

func textSame(t *testing.T, what string, got impl.TextOut, want impl.TextOut) {
	t.Helper()
	if got != want {
		t.Errorf("%s: got %d bytes, At %d, Code %d, want %d bytes, At %d, Code %d", what,
			len(got.Text), got.At, got.Code, len(want.Text), want.At, want.Code)
	}
}

func randomText(r *rand.Rand, length int) string {
	row := make([]byte, length)
	r.Read(row)
	return string(row)
}

// someNumbers holds both sides of each place where a number needs one byte more, and others.
func someNumbers() []int64 {
	l := []int64{0, 1, -1, 2, -2, math.MaxInt64, math.MaxInt64 - 1, math.MinInt64, math.MinInt64 + 1}
	for shift := 1; shift < 63; shift++ {
		p := int64(1) << shift
		l = append(l, p-1, p, p+1, -p-1, -p, -p+1)
	}
	r := rand.New(rand.NewSource(seed))
	for i := 0; i < 2000; i++ {
		l = append(l, int64(r.Uint64())>>r.Intn(64))
	}
	return l
}

func TestConstantsAreThoseOfChapterOne(t *testing.T) {
	got := []int64{impl.OK, impl.ErrForm, impl.ErrSize, impl.ErrSyntax, impl.ErrShort, impl.ErrSum, impl.ErrNone,
		impl.ErrThere, impl.ErrRange, impl.ErrFull, impl.ErrState, impl.MaxBytes, impl.MaxList, impl.MaxTime}
	want := []int64{0, 1, 2, 3, 4, 5, 6, 7, 8, 9, 10, 20000, 400, 1000000000}
	for i := range want {
		if got[i] != want[i] {
			t.Errorf("constant %d: got %d, want %d", i, got[i], want[i])
		}
	}
}

func TestPutNumBytes(t *testing.T) {
	cases := []struct {
		n    int64
		want string
	}{
		{0, "\x00"}, {-1, "\x01"}, {1, "\x02"}, {-2, "\x03"},
		{63, "\x7e"}, {-64, "\x7f"}, {64, "\x80\x01"}, {-65, "\x81\x01"},
		{8191, "\xfe\x7f"}, {-8192, "\xff\x7f"}, {8192, "\x80\x80\x01"},
		{math.MaxInt64, "\xfe\xff\xff\xff\xff\xff\xff\xff\xff\x01"},
		{math.MinInt64, "\xff\xff\xff\xff\xff\xff\xff\xff\xff\x01"},
	}
	for _, c := range cases {
		if got := impl.PutNum(c.n); got != c.want {
			t.Errorf("PutNum(%d): got %x, want %x", c.n, got, c.want)
		}
	}
	for _, n := range someNumbers() {
		if got, want := impl.PutNum(n), string(binary.AppendVarint(nil, n)); got != want {
			t.Errorf("PutNum(%d): got %x, want %x", n, got, want)
		}
	}
}

// Promise 1, of numbers.
func TestNumbersComeBack(t *testing.T) {
	for _, n := range someNumbers() {
		row := impl.PutNum(n)
		end := int64(len(row))
		numSame(t, "alone", impl.GetNum(row, 0), impl.NumOut{N: n, At: end})
		numSame(t, "between", impl.GetNum("\xff\xff"+row+"\x80\x00", 2), impl.NumOut{N: n, At: end + 2})
		for cut := int64(0); cut < end; cut++ {
			numSame(t, "cut", impl.GetNum(row[:cut], 0), impl.NumOut{Code: impl.ErrShort})
		}
	}
}

// Promise 1, of numbers one behind the other.
func TestRowOfNumbersComesBack(t *testing.T) {
	var row strings.Builder
	l := someNumbers()[:1000]
	for _, n := range l {
		row.WriteString(impl.PutNum(n))
	}
	at := int64(0)
	for _, n := range l {
		out := impl.GetNum(row.String(), at)
		if out.N != n || out.Code != impl.OK {
			t.Fatalf("at %d: got %+v, want %d", at, out, n)
		}
		at = out.At
	}
	numSame(t, "at the end", impl.GetNum(row.String(), at), impl.NumOut{Code: impl.ErrShort})
}

func TestGetNumFaults(t *testing.T) {
	nine := strings.Repeat("\x80", 9)
	full := strings.Repeat("\xff", 9)
	long := strings.Repeat("\x00", impl.MaxBytes+1)
	cases := []struct {
		what string
		text string
		at   int64
		want int64
	}{
		{"a text too long", long, 0, impl.ErrSize},
		{"a text too long goes ahead of a place below 0", long, -1, impl.ErrSize},
		{"a place below 0", "\x00", -1, impl.ErrForm},
		{"the least place", "\x00", math.MinInt64, impl.ErrForm},
		{"a place below 0 goes ahead of a short text", "", -1, impl.ErrForm},
		{"an empty text", "", 0, impl.ErrShort},
		{"the place of the end", "\x00", 1, impl.ErrShort},
		{"a place behind the end", "\x00", 2, impl.ErrShort},
		{"the greatest place", "\x00", math.MaxInt64, impl.ErrShort},
		{"no last byte", "\x80", 0, impl.ErrShort},
		{"nine bytes, no last one", nine, 0, impl.ErrShort},
		{"nine full bytes, no last one", full, 0, impl.ErrShort},
		{"a needless byte", "\x80\x00", 0, impl.ErrSyntax},
		{"a needless byte behind others", "\x81\xff\x00", 0, impl.ErrSyntax},
		{"a needless tenth byte", nine + "\x00", 0, impl.ErrSyntax},
		{"a tenth byte of 2", nine + "\x02", 0, impl.ErrSyntax},
		{"a tenth byte of 127", full + "\x7f", 0, impl.ErrSyntax},
		{"a tenth byte of 128, and the end", nine + "\x80", 0, impl.ErrSyntax},
		{"a tenth byte of 129, and the end", full + "\x81", 0, impl.ErrSyntax},
		{"an eleventh byte", nine + "\x81\x00", 0, impl.ErrSyntax},
	}
	for _, c := range cases {
		numSame(t, c.what, impl.GetNum(c.text, c.at), impl.NumOut{Code: c.want})
	}
}

func TestGetNumEdges(t *testing.T) {
	numSame(t, "a lone 0", impl.GetNum("\x00\x00", 0), impl.NumOut{N: 0, At: 1})
	numSame(t, "a tenth byte of 1", impl.GetNum(strings.Repeat("\x80", 9)+"\x01", 0), impl.NumOut{N: 1 << 62, At: 10})
	whole := strings.Repeat("\x02", impl.MaxBytes)
	numSame(t, "the last byte of the longest text", impl.GetNum(whole, impl.MaxBytes-1), impl.NumOut{N: 1, At: impl.MaxBytes})
	numSame(t, "behind the longest text", impl.GetNum(whole, impl.MaxBytes), impl.NumOut{Code: impl.ErrShort})
}

// What GetNum takes is what PutNum writes, byte for byte: each number is written in one way alone.
func TestGetNumTakesOneWritingOnly(t *testing.T) {
	r := rand.New(rand.NewSource(seed))
	for i := 0; i < 20000; i++ {
		row := []byte(randomText(r, 1+r.Intn(12)))
		for k := range row[:len(row)-1] {
			row[k] |= 128
		}
		out := impl.GetNum(string(row), 0)
		if out.Code == impl.OK && impl.PutNum(out.N) != string(row[:out.At]) {
			t.Errorf("%x: read as %d, which is written %x", row, out.N, impl.PutNum(out.N))
		}
	}
}

func TestPutTextBytes(t *testing.T) {
	cases := []struct {
		text string
		want string
	}{
		{"", "\x00"},
		{"ab", "\x04ab"},
		{"\x00\xff", "\x04\x00\xff"},
		{strings.Repeat("x", 63), "\x7e" + strings.Repeat("x", 63)},
		{strings.Repeat("x", 64), "\x80\x01" + strings.Repeat("x", 64)},
		{strings.Repeat("x", impl.MaxBytes), "\xc0\xb8\x02" + strings.Repeat("x", impl.MaxBytes)},
		{strings.Repeat("x", impl.MaxBytes+1), ""},
	}
	for _, c := range cases {
		if got := impl.PutText(c.text); got != c.want {
			t.Errorf("PutText of %d bytes: got %d bytes, want %d", len(c.text), len(got), len(c.want))
		}
	}
}

// Promise 1, of texts.
func TestTextsComeBack(t *testing.T) {
	r := rand.New(rand.NewSource(seed))
	// With its three bytes of length a text of MaxBytes less 3 just fits in.
	lengths := []int{0, 1, 2, 31, 32, 63, 64, 65, 8191, 8192, impl.MaxBytes - 4, impl.MaxBytes - 3}
	for i := 0; i < 300; i++ {
		lengths = append(lengths, r.Intn(300))
	}
	for _, length := range lengths {
		text := randomText(r, length)
		row := impl.PutText(text)
		end := int64(len(row))
		textSame(t, "alone", impl.GetText(row, 0), impl.TextOut{Text: text, At: end})
		if end+4 <= impl.MaxBytes {
			textSame(t, "between", impl.GetText("\xff\xff"+row+"zz", 2), impl.TextOut{Text: text, At: end + 2})
		}
		textSame(t, "cut", impl.GetText(row[:end-1], 0), impl.TextOut{Code: impl.ErrShort})
	}
}

func TestGetTextFaults(t *testing.T) {
	long := impl.PutText(strings.Repeat("x", impl.MaxBytes-2))
	cases := []struct {
		what string
		text string
		at   int64
		want int64
	}{
		{"a text that does not fit in", long, 0, impl.ErrSize},
		{"a text too long goes ahead of a place below 0", long, -1, impl.ErrSize},
		{"a place below 0", "\x00", -1, impl.ErrForm},
		{"a place below 0 goes ahead of a short text", "", math.MinInt64, impl.ErrForm},
		{"an empty text", "", 0, impl.ErrShort},
		{"the place of the end", "\x04ab", 3, impl.ErrShort},
		{"the greatest place", "\x04ab", math.MaxInt64, impl.ErrShort},
		{"a length that is cut", "\x80", 0, impl.ErrShort},
		{"a length written too long", "\x84\x00ab", 0, impl.ErrSyntax},
		{"a length with a tenth byte of 2", strings.Repeat("\x80", 9) + "\x02", 0, impl.ErrSyntax},
		{"a length of -1", "\x01ab", 0, impl.ErrSyntax},
		{"the least length", impl.PutNum(math.MinInt64) + "ab", 0, impl.ErrSyntax},
		{"the greatest length", impl.PutNum(math.MaxInt64) + "ab", 0, impl.ErrSyntax},
		{"a length above MaxBytes goes ahead of a short text", impl.PutNum(impl.MaxBytes + 1), 0, impl.ErrSyntax},
		{"a length of MaxBytes", impl.PutNum(impl.MaxBytes) + "ab", 0, impl.ErrShort},
		{"a text without its last byte", "\x04a", 0, impl.ErrShort},
		{"a text without any byte", "\x02", 0, impl.ErrShort},
	}
	for _, c := range cases {
		textSame(t, c.what, impl.GetText(c.text, c.at), impl.TextOut{Code: c.want})
	}
	textSame(t, "an empty one at the end", impl.GetText("ab\x00", 2), impl.TextOut{At: 3})
}

func TestNameRight(t *testing.T) {
	right := []string{"a", "z", "log", "a_9", "a0", "z_", "a__", "m9z0", strings.Repeat("a", 20), "a" + strings.Repeat("_", 19)}
	wrong := []string{"", "_", "_a", "0", "9a", "A", "aB", "a b", " a", "a ", "a-b", "a\n", "a\x00", "a\xff", "\xff",
		"aé", "é", "a`", "a{", "a/", "a:", "`a", "{a", "a^", strings.Repeat("a", 21), strings.Repeat("a", impl.MaxBytes+1)}
	for _, name := range right {
		if !impl.NameRight(name) {
			t.Errorf("%q is a name", name)
		}
	}
	for _, name := range wrong {
		if impl.NameRight(name) {
			t.Errorf("%.30q is no name", name)
		}
	}
}

// Each byte is tried ahead of a name and within one.
func TestNameRightByteByByte(t *testing.T) {
	const first = "abcdefghijklmnopqrstuvwxyz"
	for b := 0; b < 256; b++ {
		one := string([]byte{byte(b)})
		if got, want := impl.NameRight(one+"a"), strings.Contains(first, one); got != want {
			t.Errorf("byte %d first: got %v, want %v", b, got, want)
		}
		if got, want := impl.NameRight("a"+one+"a"), strings.Contains(first+"0123456789_", one); got != want {
			t.Errorf("byte %d within: got %v, want %v", b, got, want)
		}
	}
}

func TestCrc(t *testing.T) {
	cases := []struct {
		text string
		want int64
	}{
		{"", 0},
		{"123456789", 0xcbf43926},
		{"a", 0xe8b7be43},
		{"\x00", 0xd202ef8d},
		{"\xff\xff\xff\xff", 0xffffffff},
		{strings.Repeat("x", impl.MaxBytes+1), 0},
	}
	for _, c := range cases {
		if got := impl.Crc(c.text); got != c.want {
			t.Errorf("Crc of %.20q: got %x, want %x", c.text, got, c.want)
		}
	}
	r := rand.New(rand.NewSource(seed))
	for _, length := range []int{1, 2, 3, 4, 5, 100, 1000, impl.MaxBytes - 1, impl.MaxBytes} {
		text := randomText(r, length)
		if got, want := impl.Crc(text), int64(crc32.ChecksumIEEE([]byte(text))); got != want {
			t.Errorf("Crc of %d bytes: got %x, want %x", length, got, want)
		}
	}
}

// Promise 2, of a CRC that goes on.
func TestCrcGoesOn(t *testing.T) {
	r := rand.New(rand.NewSource(seed))
	for i := 0; i < 300; i++ {
		text := randomText(r, r.Intn(200))
		cut := r.Intn(len(text) + 1)
		if got, want := impl.CrcMore(impl.Crc(text[:cut]), text[cut:]), impl.Crc(text); got != want {
			t.Errorf("%x cut at %d: got %x, want %x", text, cut, got, want)
		}
	}
	// Both together may be longer than one text may be.
	front, back := randomText(r, impl.MaxBytes), randomText(r, impl.MaxBytes)
	if got, want := impl.CrcMore(impl.Crc(front), back), int64(crc32.ChecksumIEEE([]byte(front+back))); got != want {
		t.Errorf("two of the longest texts: got %x, want %x", got, want)
	}
}

func TestCrcMoreEdges(t *testing.T) {
	cases := []struct {
		what string
		crc  int64
		text string
		want int64
	}{
		{"nothing more", 0xcbf43926, "", 0xcbf43926},
		{"nothing at all", 0, "", 0},
		{"the greatest crc", math.MaxUint32, "", math.MaxUint32},
		{"the greatest crc, and more", math.MaxUint32, "\xff\xff\xff\xff", int64(crc32.ChecksumIEEE([]byte("\xff\xff\xff\xff\xff\xff\xff\xff")))},
		{"a crc too great", math.MaxUint32 + 1, "a", 0},
		{"a crc too great, and nothing", math.MaxUint32 + 1, "", 0},
		{"the greatest number", math.MaxInt64, "a", 0},
		{"a crc below 0", -1, "a", 0},
		{"a crc below 0, and nothing", -1, "", 0},
		{"the least number", math.MinInt64, "a", 0},
		{"a text too long", 1, strings.Repeat("x", impl.MaxBytes+1), 0},
	}
	for _, c := range cases {
		if got := impl.CrcMore(c.crc, c.text); got != c.want {
			t.Errorf("%s: got %x, want %x", c.what, got, c.want)
		}
	}
}

func TestSealBytes(t *testing.T) {
	cases := []struct {
		text string
		want string
	}{
		{"", "\x00\x00\x00\x00"},
		{"123456789", "123456789\x26\x39\xf4\xcb"},
		{strings.Repeat("x", impl.MaxBytes-3), ""},
		{strings.Repeat("x", impl.MaxBytes+1), ""},
	}
	for _, c := range cases {
		if got := impl.Seal(c.text); got != c.want {
			t.Errorf("Seal of %d bytes: got %d bytes, want %q", len(c.text), len(got), c.want)
		}
	}
	if got := len(impl.Seal(strings.Repeat("x", impl.MaxBytes-4))); got != impl.MaxBytes {
		t.Errorf("Seal of the longest text: got %d bytes", got)
	}
}

// Promise 2, of seals that come back.
func TestSealedTextsComeBack(t *testing.T) {
	r := rand.New(rand.NewSource(seed))
	for _, length := range []int{0, 1, 2, 3, 4, 5, 63, 64, 100, 5000, impl.MaxBytes - 5, impl.MaxBytes - 4} {
		text := randomText(r, length)
		textSame(t, "unsealed", impl.Unseal(impl.Seal(text)), impl.TextOut{Text: text})
	}
}

// Promise 2, of one byte turned: each byte, those of the CRC too, to each other value.
func TestTurnedByteIsRefused(t *testing.T) {
	for _, text := range []string{"", "a", "log", "\x00\x00\x00\x00", strings.Repeat("\xff", 20)} {
		row := []byte(impl.Seal(text))
		for at := range row {
			was := row[at]
			for turn := 1; turn < 256; turn++ {
				row[at] = was ^ byte(turn)
				textSame(t, "turned", impl.Unseal(string(row)), impl.TextOut{Code: impl.ErrSum})
			}
			row[at] = was
		}
	}
}

func TestUnsealFaults(t *testing.T) {
	sealed := impl.Seal("abc")
	cases := []struct {
		what string
		text string
		want int64
	}{
		{"a text too long", strings.Repeat("\x00", impl.MaxBytes+1), impl.ErrSize},
		{"an empty text", "", impl.ErrShort},
		{"three bytes", "\x00\x00\x00", impl.ErrShort},
		{"four bytes that are no CRC of nothing", "\x00\x00\x00\x01", impl.ErrSum},
		{"a seal without its last byte", sealed[:6], impl.ErrSum},
		{"a seal with a byte more", sealed + "\x00", impl.ErrSum},
		{"a CRC with its highest byte first", "123456789\xcb\xf4\x39\x26", impl.ErrSum},
		{"the longest text, with no seal", strings.Repeat("x", impl.MaxBytes), impl.ErrSum},
	}
	for _, c := range cases {
		textSame(t, c.what, impl.Unseal(c.text), impl.TextOut{Code: c.want})
	}
	textSame(t, "the seal of nothing", impl.Unseal("\x00\x00\x00\x00"), impl.TextOut{})
}
