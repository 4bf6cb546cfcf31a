package tests

import (
	"encoding/binary"
	"math"
	"math/rand"
	"regexp"
	"slices"
	"strconv"
	"strings"
	"testing"

	"loop.example/g00390/impl"
)

// What the program answers is held against a judge by Go's own SHA-256, and bytes by Go's own numbers.

var nameForm = regexp.MustCompile(`^[a-z][a-z0-9_]{0,19}$`)

func allOfLength(l []string, length int) bool {
	return !slices.ContainsFunc(l, func(one string) bool { return len(one) != length })
}

func headRightByHand(h impl.Head) bool {
	return nameForm.MatchString(h.Log) && h.Size >= 0 && h.Size <= 64 && len(h.Root) == 32 && h.Time >= 0 && h.Time <= 1000000000 &&
		h.Sig.Key >= 0 && h.Sig.Key <= 3 && len(h.Sig.Ends) == 6 && len(h.Sig.Path) == 2 &&
		allOfLength(h.Sig.Ends, 32) && allOfLength(h.Sig.Path, 32)
}

func entriesRightByHand(l []string) bool {
	return len(l) <= 64 && !slices.ContainsFunc(l, func(one string) bool { return len(one) > 100 })
}

// goodByHand needs no seed: it goes the way that a Sig leads to the root.
func goodByHand(root string, h impl.Head) bool {
	if !headRightByHand(h) || len(root) != 32 {
		return false
	}
	all := ""
	for number, digit := range digitsBySha(headTextByHand(h)) {
		all += stepsBySha(h.Sig.Ends[number], 15-digit)
	}
	top, fits := climbByBits(leafBySha(shaOf(all)), h.Sig.Key, 4, h.Sig.Path)
	return fits && top == root
}

func judgeByHand(root string, f impl.Fraud) bool {
	if !goodByHand(root, f.A) || !goodByHand(root, f.B) || f.A.Log != f.B.Log {
		return false
	}
	if len(f.Entries) == 0 {
		return f.A.Size == f.B.Size && f.A.Root != f.B.Root
	}
	return entriesRightByHand(f.Entries) && int64(len(f.Entries)) == f.B.Size && f.B.Size > f.A.Size &&
		treeByCut(f.Entries) == f.B.Root && treeByCut(f.Entries[:f.A.Size]) != f.A.Root
}

// spelling lays a fraud's bytes, right or not; the number that is named is spelt longer than need be.
type spelling struct {
	longer int
	count  int
}

func (s *spelling) num(n int64) string {
	row := []byte(numByVarint(n))
	if s.count == s.longer {
		row[len(row)-1] |= 128
		row = append(row, 0)
	}
	s.count++
	return string(row)
}

func (s *spelling) text(t string) string {
	return s.num(int64(len(t))) + t
}

func (s *spelling) texts(l []string) string {
	row := ""
	for _, one := range l {
		row += s.text(one)
	}
	return row
}

// head has also what stands behind its HeadText within the text that holds it.
func (s *spelling) head(h impl.Head, behind string) string {
	signed := s.text(h.Log) + s.num(h.Size) + s.text(h.Root) + s.num(h.Time) + behind
	return s.text(signed) + s.num(h.Sig.Key) + s.texts(h.Sig.Ends) + s.texts(h.Sig.Path)
}

func (s *spelling) fraud(f impl.Fraud) string {
	return s.head(f.A, "") + s.head(f.B, "") + s.num(int64(len(f.Entries))) + s.texts(f.Entries)
}

func fraudBytesByHand(f impl.Fraud) string {
	return (&spelling{longer: -1}).fraud(f)
}

// decoding takes bytes apart; what it finds is only held for a fraud's if it can be laid so again.
type decoding struct {
	rest []byte
	bad  bool
}

func (d *decoding) num() int64 {
	n, length := binary.Varint(d.rest)
	if d.bad = d.bad || length <= 0; d.bad {
		return 0
	}
	d.rest = d.rest[length:]
	return n
}

func (d *decoding) text() string {
	length := d.num()
	if d.bad = d.bad || length < 0 || length > int64(len(d.rest)); d.bad {
		return ""
	}
	t := string(d.rest[:length])
	d.rest = d.rest[length:]
	return t
}

func (d *decoding) texts(count int64) []string {
	var l []string
	for int64(len(l)) < count && !d.bad {
		l = append(l, d.text())
	}
	return l
}

func (d *decoding) head() impl.Head {
	signed := decoding{rest: []byte(d.text())}
	h := impl.Head{Log: signed.text(), Size: signed.num(), Root: signed.text(), Time: signed.num()}
	d.bad = d.bad || signed.bad
	h.Sig = impl.Sig{Key: d.num(), Ends: d.texts(6), Path: d.texts(2)}
	return h
}

func fraudReadByHand(text string) impl.FraudOut {
	d := decoding{rest: []byte(text)}
	f := impl.Fraud{A: d.head(), B: d.head()}
	f.Entries = d.texts(d.num())
	if len(text) > 20000 {
		return impl.FraudOut{Code: impl.ErrSize}
	}
	if d.bad || !headRightByHand(f.A) || !headRightByHand(f.B) || !entriesRightByHand(f.Entries) || fraudBytesByHand(f) != text {
		return impl.FraudOut{Code: impl.ErrSyntax}
	}
	return impl.FraudOut{Fraud: f}
}

func fraudEqual(a impl.Fraud, b impl.Fraud) bool {
	return headEqual(a.A, b.A) && headEqual(a.B, b.B) && slices.Equal(a.Entries, b.Entries)
}

func fraudOutSame(t *testing.T, what string, got impl.FraudOut, want impl.FraudOut) {
	t.Helper()
	if got.Code != want.Code || !fraudEqual(got.Fraud, want.Fraud) {
		t.Errorf("%s: got Code %d, %d entries, A %x, B %x, want Code %d, %d entries, A %x, B %x", what,
			got.Code, len(got.Fraud.Entries), got.Fraud.A, got.Fraud.B, want.Code, len(want.Fraud.Entries), want.Fraud.A, want.Fraud.B)
	}
}

func fraudCopy(f impl.Fraud) impl.Fraud {
	return impl.Fraud{A: headCopy(f.A), B: headCopy(f.B), Entries: slices.Clone(f.Entries)}
}

// rootedHead is signed by the seed, whatever its Root is the tree of.
func rootedHead(key int, log string, size int, root string) impl.Head {
	h := impl.Head{Log: log, Size: int64(size), Root: root, Time: 5}
	h.Sig = signBySha("seed", key, headTextByHand(h))
	return h
}

// randomFraud is right in its heads and entries, and none that a judge would hold for one.
func randomFraud(r *rand.Rand) impl.Fraud {
	f := impl.Fraud{A: randomHead(r), B: randomHead(r)}
	for range r.Intn(6) * r.Intn(14) {
		f.Entries = append(f.Entries, randomText(r, r.Intn(101)))
	}
	if len(f.Entries) > 64 {
		f.Entries = f.Entries[:64]
	}
	return f
}

// splitFraud and rewriteFraud are of the two kinds that there are.
func splitFraud() impl.Fraud {
	return impl.Fraud{A: headByHand("seed", 0, "log", numbered(3), 1), B: headByHand("seed", 1, "log", with(numbered(3), 1, "x"), 2)}
}

func rewriteFraud() impl.Fraud {
	return impl.Fraud{A: headByHand("seed", 2, "log", with(numbered(3), 1, "x"), 3), B: headByHand("seed", 1, "log", numbered(5), 2), Entries: numbered(5)}
}

func TestKnownFrauds(t *testing.T) {
	root := impl.KeyRoot("seed")
	boolSame(t, "two heads of one size", impl.Judge(root, splitFraud()), true)
	boolSame(t, "a row that does not go on", impl.Judge(root, rewriteFraud()), true)
	for what, f := range map[string]impl.Fraud{"split": splitFraud(), "rewrite": rewriteFraud(), "zero": {}} {
		f.A, f.B = f.B, f.A
		boolSame(t, what+", the other way round", impl.Judge(root, f), what == "split")
	}
	boolSame(t, "the zero one", impl.Judge(root, impl.Fraud{}), false)
	boolSame(t, "the zero one, no root", impl.Judge("", impl.Fraud{}), false)
	hexSame(t, "bytes of a split", shaOf(impl.FraudBytes(splitFraud())), knownSplit)
	hexSame(t, "bytes of a rewrite", shaOf(impl.FraudBytes(rewriteFraud())), knownRewrite)
}

// The digests of the bytes of both, as another program lays them.
const (
	knownSplit   = "d129ad31abf9b6d40b9ae014271c7eb9d798eb9c2e6779bdc5273f3d349654cd"
	knownRewrite = "803b6d40b1dc4e3f2c07b529628e00ace0cb88e99781c9ade6a5485149348ef3"
)

// Promise 8, its first part: whatever is said of two heads of one row, either way round.
func TestHonestLogIsNeverGuilty(t *testing.T) {
	r := rand.New(rand.NewSource(seed))
	root := impl.KeyRoot("seed")
	row := numbered(impl.MaxLeaves)
	var heads []impl.Head
	for _, size := range []int{0, 1, 2, 3, 4, 7, 8, 9, 31, 32, 33, 63, 64, 7, 33} {
		heads = append(heads, impl.HeadSign("seed", int64(r.Intn(4)), "log", row[:size], int64(r.Intn(1000))))
	}
	others := [][]string{nil, {}, row, row[1:], with(row, 0, "x"), with(row, 63, "x"), make([]string, 64)}
	for _, a := range heads {
		for _, b := range heads {
			rows := append(slices.Clone(others), row[:a.Size], row[:b.Size], row[a.Size:], row[b.Size:])
			if b.Size > 0 {
				changed := with(row[:b.Size], r.Intn(int(b.Size)), "x")
				rows = append(rows, changed, row[:b.Size-1], append(slices.Clone(row[:b.Size]), "x"))
			}
			for _, entries := range rows {
				boolSame(t, "of one row", impl.Judge(root, impl.Fraud{A: a, B: b, Entries: entries}), false)
			}
		}
	}
}

// Promise 8, its second part: at each size, wherever the rows go apart.
func TestUnlikeRootsOfOneSizeAreGuilty(t *testing.T) {
	root := impl.KeyRoot("seed")
	for size := 1; size <= impl.MaxLeaves; size++ {
		a := impl.HeadSign("seed", int64(size%4), "log", numbered(size), 3)
		for _, at := range []int{0, size / 2, size - 1} {
			b := impl.HeadSign("seed", int64((size+1)%4), "log", with(numbered(size), at, "x"), 4)
			boolSame(t, "one way round", impl.Judge(root, impl.Fraud{A: a, B: b}), true)
			boolSame(t, "the other way round", impl.Judge(root, impl.Fraud{A: b, B: a, Entries: []string{}}), true)
		}
	}
	empty, other := rootedHead(0, "log", 0, shaOf("")), rootedHead(1, "log", 0, shaOf("x"))
	boolSame(t, "of the Size 0", impl.Judge(root, impl.Fraud{A: empty, B: other}), true)
	boolSame(t, "with itself", impl.Judge(root, impl.Fraud{A: other, B: other}), false)
}

// A later head of a row is no excuse for one that signed another beginning of it.
func TestRewriteOfEachSize(t *testing.T) {
	root := impl.KeyRoot("seed")
	for _, more := range []int{1, 2, 3, 4, 5, 8, 9, 33, 64} {
		b := impl.HeadSign("seed", 1, "log", numbered(more), 3)
		for less := 0; less <= impl.MaxLeaves; less++ {
			honest := impl.HeadSign("seed", 0, "log", numbered(less), 2)
			boolSame(t, "the same row", impl.Judge(root, impl.Fraud{A: honest, B: b, Entries: numbered(more)}), false)
			a := rootedHead(2, "log", less, shaOf("x"))
			f := impl.Fraud{A: a, B: b, Entries: numbered(more)}
			boolSame(t, strconv.Itoa(less)+" of "+strconv.Itoa(more), impl.Judge(root, f), less < more)
			f.Entries = nil
			boolSame(t, "without Entries", impl.Judge(root, f), less == more)
			f = impl.Fraud{A: b, B: a, Entries: numbered(more)}
			boolSame(t, "the other way round", impl.Judge(root, f), false)
		}
	}
}

// Entries that have room behind them could be cut behind their end.
func TestJudgeOfALargerFirstHead(t *testing.T) {
	root := impl.KeyRoot("seed")
	room := append(make([]string, 0, impl.MaxList), numbered(3)...)
	b := headByHand("seed", 1, "log", numbered(3), 3)
	for size := 3; size <= impl.MaxLeaves; size++ {
		f := impl.Fraud{A: rootedHead(2, "log", size, shaOf("x")), B: b, Entries: room}
		boolSame(t, "A's Size "+strconv.Itoa(size), impl.Judge(root, f), false)
		f.Entries = numbered(3)
		boolSame(t, "A's Size "+strconv.Itoa(size), impl.Judge(root, f), false)
	}
}

func TestJudgeOfOtherEntries(t *testing.T) {
	root := impl.KeyRoot("seed")
	f := rewriteFraud()
	boolSame(t, "as they were signed", impl.Judge(root, f), true)
	for at := range f.Entries {
		boolSame(t, "one of them changed", impl.Judge(root, impl.Fraud{A: f.A, B: f.B, Entries: with(f.Entries, at, "other")}), false)
	}
	for many := 0; many <= impl.MaxLeaves; many++ {
		one := impl.Fraud{A: f.A, B: f.B, Entries: numbered(many)}
		boolSame(t, strconv.Itoa(many)+" entries", impl.Judge(root, one), many == 5)
		// A Root of these, in a head of another Size: only how many there are is against it.
		one.B = rootedHead(3, "log", 5, treeByCut(numbered(many)))
		boolSame(t, strconv.Itoa(many)+" entries, signed as 5", impl.Judge(root, one), many == 5)
	}
	swapped := slices.Clone(f.Entries)
	slices.Reverse(swapped)
	boolSame(t, "in another order", impl.Judge(root, impl.Fraud{A: f.A, B: f.B, Entries: swapped}), false)
	for what, wrong := range wrongEntries() {
		for _, size := range []int{len(wrong), 64} {
			one := impl.Fraud{A: f.A, B: rootedHead(3, "log", size, treeByCut(wrong)), Entries: wrong}
			boolSame(t, what, impl.Judge(root, one), false)
		}
	}
	for _, many := range []int{impl.MaxList, impl.MaxList + 1} {
		one := impl.Fraud{A: f.A, B: rootedHead(3, "log", 64, treeByCut(numbered(many))), Entries: numbered(many)}
		boolSame(t, strconv.Itoa(many)+" entries", impl.Judge(root, one), false)
	}
}

func TestJudgeOfEntriesAtTheirLimits(t *testing.T) {
	root := impl.KeyRoot("seed")
	for _, length := range []int{0, 1, 99, 100, 101, 102, impl.MaxBytes, impl.MaxBytes + 1} {
		for at := 0; at < 3; at++ {
			entries := with(numbered(3), at, strings.Repeat("x", length))
			f := impl.Fraud{A: rootedHead(2, "log", 1, shaOf("x")), B: rootedHead(1, "log", 3, treeByCut(entries)), Entries: entries}
			boolSame(t, "an entry of "+strconv.Itoa(length), impl.Judge(root, f), length <= 100)
		}
	}
	// LeafHash of such an entry is the empty text: a Root that was made of it must not do.
	long := []string{"a", "b", strings.Repeat("x", impl.MaxEntry+1)}
	odd := shaOf("\x01" + treeByCut(long[:2]))
	boolSame(t, "no leaf in its place", impl.Judge(root, impl.Fraud{A: rootedHead(2, "log", 1, shaOf("x")), B: rootedHead(1, "log", 3, odd), Entries: long}), false)
	full := slices.Repeat([]string{strings.Repeat("x", impl.MaxEntry)}, impl.MaxLeaves)
	f := impl.Fraud{A: rootedHead(2, "log", 63, shaOf("x")), B: rootedHead(1, "log", 64, treeByCut(full)), Entries: full}
	boolSame(t, "the most there may be", impl.Judge(root, f), true)
	f.Entries = append(slices.Clone(full), "x")
	boolSame(t, "one more", impl.Judge(root, f), false)
	f.B = rootedHead(1, "log", 65, treeByCut(f.Entries))
	boolSame(t, "one more, signed", impl.Judge(root, f), false)
}

// Heads in conflict prove it without Entries; these beside them are of no kind.
func TestJudgeOfAConflictWithEntries(t *testing.T) {
	root := impl.KeyRoot("seed")
	f := splitFraud()
	for _, entries := range [][]string{numbered(3), with(numbered(3), 1, "x"), {""}, {"x"}, numbered(2), numbered(4), numbered(64), numbered(65)} {
		boolSame(t, "Entries beside a conflict", impl.Judge(root, impl.Fraud{A: f.A, B: f.B, Entries: entries}), false)
		boolSame(t, "Entries beside a conflict", impl.Judge(root, impl.Fraud{A: f.B, B: f.A, Entries: entries}), false)
	}
	boolSame(t, "an empty list is none", impl.Judge(root, impl.Fraud{A: f.A, B: f.B, Entries: []string{}}), true)
}

func TestJudgeOfTwoLogs(t *testing.T) {
	root := impl.KeyRoot("seed")
	for what, f := range map[string]impl.Fraud{"split": splitFraud(), "rewrite": rewriteFraud()} {
		for _, log := range []string{"lo", "logs", "lof", "l", "other"} {
			one, other := fraudCopy(f), fraudCopy(f)
			one.A.Log, other.B.Log = log, log
			one.A.Sig, other.B.Sig = signBySha("seed", 0, headTextByHand(one.A)), signBySha("seed", 0, headTextByHand(other.B))
			boolSame(t, what+" of "+log, impl.HeadGood(root, one.A) && impl.HeadGood(root, other.B), true)
			boolSame(t, what+" of "+log, impl.Judge(root, one) || impl.Judge(root, other), false)
			one.B.Log = log
			one.B.Sig = signBySha("seed", 1, headTextByHand(one.B))
			boolSame(t, what+", both of "+log, impl.Judge(root, one), true)
		}
	}
}

func TestJudgeOfHeadsThatAreNotGood(t *testing.T) {
	root := impl.KeyRoot("seed")
	for kind, f := range map[string]impl.Fraud{"split: ": splitFraud(), "rewrite: ": rewriteFraud()} {
		for what, wrong := range wrongHeads(f.A) {
			boolSame(t, kind+"A, "+what, impl.Judge(root, impl.Fraud{A: wrong, B: f.B, Entries: f.Entries}), false)
		}
		for what, wrong := range wrongHeads(f.B) {
			boolSame(t, kind+"B, "+what, impl.Judge(root, impl.Fraud{A: f.A, B: wrong, Entries: f.Entries}), false)
		}
		for at := 0; at < 6; at++ {
			one, other := fraudCopy(f), fraudCopy(f)
			one.A.Sig.Ends[at], other.B.Sig.Ends[at] = turned(f.A.Sig.Ends[at], 3), turned(f.B.Sig.Ends[at], 200)
			boolSame(t, kind+"an End turned", impl.Judge(root, one) || impl.Judge(root, other), false)
		}
		one, other := fraudCopy(f), fraudCopy(f)
		one.A.Sig, other.B.Sig = signBySha("other", 0, headTextByHand(f.A)), signBySha("other", 0, headTextByHand(f.B))
		boolSame(t, kind+"signed by another seed", impl.Judge(root, one) || impl.Judge(root, other), false)
		one.A.Sig, other.B.Sig = f.B.Sig, f.A.Sig
		boolSame(t, kind+"the other one's Sig", impl.Judge(root, one) || impl.Judge(root, other), false)
		for key := 0; key < 4; key++ {
			one.A.Sig = signBySha("seed", key, headTextByHand(f.A))
			boolSame(t, kind+"signed by any key", impl.Judge(root, one), true)
		}
	}
}

func TestJudgeUnderOtherRoots(t *testing.T) {
	root := impl.KeyRoot("seed")
	for kind, f := range map[string]impl.Fraud{"split": splitFraud(), "rewrite": rewriteFraud()} {
		boolSame(t, kind+" under its seed's", impl.Judge(root, f), true)
		for bit := 0; bit < 256; bit++ {
			boolSame(t, kind+", a bit turned", impl.Judge(turned(root, bit), f), false)
		}
		for _, wrong := range otherLengths(root) {
			boolSame(t, kind+" under one of "+strconv.Itoa(len(wrong)), impl.Judge(wrong, f), false)
		}
		boolSame(t, kind+" under another seed's", impl.Judge(impl.KeyRoot("other"), f), false)
		boolSame(t, kind+" under A's Root", impl.Judge(f.A.Root, f), false)
	}
}

// Any heads, with any entries, of few logs, sizes and rows, so that all that is asked is met and missed.
func TestJudgeOfAnyTwoHeads(t *testing.T) {
	r := rand.New(rand.NewSource(seed))
	root := keyRootBySha("seed")
	rows := [][]string{numbered(4), with(numbered(4), 0, "x"), with(numbered(4), 2, "x"), with(numbered(4), 3, "x")}
	var heads []impl.Head
	var signed [][]string
	for i := 0; i < 60; i++ {
		signer := []string{"seed", "seed", "seed", "seed", "seed", "other"}[r.Intn(6)]
		log := []string{"log", "log", "log", "log", "log2"}[r.Intn(5)]
		signed = append(signed, rows[r.Intn(4)][:r.Intn(5)])
		heads = append(heads, headByHand(signer, r.Intn(4), log, signed[i], int64(i)))
	}
	guilty := map[bool]int{}
	for i := 0; i < 6000; i++ {
		b := r.Intn(len(heads))
		f := impl.Fraud{A: heads[r.Intn(len(heads))], B: heads[b]}
		switch r.Intn(3) {
		case 0:
			f.Entries = signed[b]
		case 1:
			f.Entries = rows[r.Intn(4)][:r.Intn(5)]
		}
		want := judgeByHand(root, f)
		boolSame(t, "any two", impl.Judge(root, f), want)
		if want {
			guilty[len(f.Entries) == 0]++
		}
	}
	boolSame(t, "some of both kinds", guilty[true] > 20 && guilty[false] > 20, true)
}

// Promise 8, its third part.
func TestFraudsComeBack(t *testing.T) {
	r := rand.New(rand.NewSource(seed))
	l := []impl.Fraud{splitFraud(), rewriteFraud()}
	for i := 0; i < 400; i++ {
		l = append(l, randomFraud(r))
	}
	for _, f := range l {
		text := impl.FraudBytes(f)
		bytesSame(t, "its bytes", text, fraudBytesByHand(f))
		fraudOutSame(t, "what comes back", impl.FraudRead(text), impl.FraudOut{Fraud: f})
	}
	root := impl.KeyRoot("seed")
	for _, f := range l[:2] {
		boolSame(t, "still a fraud", impl.Judge(root, impl.FraudRead(impl.FraudBytes(f)).Fraud), true)
	}
}

func TestFraudBytesAtTheEdges(t *testing.T) {
	r := rand.New(rand.NewSource(seed))
	both := func(what string, f impl.Fraud) {
		t.Helper()
		text := impl.FraudBytes(f)
		bytesSame(t, what, text, fraudBytesByHand(f))
		fraudOutSame(t, what, impl.FraudRead(text), impl.FraudOut{Fraud: f})
	}
	f := impl.Fraud{A: randomHead(r), B: randomHead(r)}
	both("no Entries", f)
	for many := 0; many <= impl.MaxLeaves; many++ {
		f.Entries = numbered(many)
		both(strconv.Itoa(many)+" entries", f)
		f.Entries = make([]string, many)
		both(strconv.Itoa(many)+" empty entries", f)
	}
	for length := 0; length <= impl.MaxEntry; length++ {
		f.Entries = []string{"", randomText(r, length), strings.Repeat("\x00", length)}
		both("an entry of "+strconv.Itoa(length), f)
	}
	for _, name := range rightNames() {
		for _, time := range rightTimes() {
			for _, size := range []int64{0, 1, 63, 64} {
				f.A.Log, f.A.Time, f.A.Size = name, time, size
				f.B.Log, f.B.Time, f.B.Size = name, impl.MaxTime-time, 64-size
				both("heads at the edges", f)
			}
		}
	}
	f.A.Log, f.A.Size, f.A.Time = strings.Repeat("l", 20), 64, impl.MaxTime
	f.B = headCopy(f.A)
	f.Entries = slices.Repeat([]string{strings.Repeat("x", impl.MaxEntry)}, impl.MaxLeaves)
	both("the most there may be", f)
}

func TestFraudBytesRefuses(t *testing.T) {
	r := rand.New(rand.NewSource(seed))
	f := randomFraud(r)
	for what, wrong := range wrongHeads(f.A) {
		bytesSame(t, "A: "+what, impl.FraudBytes(impl.Fraud{A: wrong, B: f.B, Entries: f.Entries}), "")
		bytesSame(t, "B: "+what, impl.FraudBytes(impl.Fraud{A: f.A, B: wrong, Entries: f.Entries}), "")
	}
	for what, wrong := range wrongEntries() {
		bytesSame(t, what, impl.FraudBytes(impl.Fraud{A: f.A, B: f.B, Entries: wrong}), "")
	}
	for _, many := range []int{impl.MaxLeaves + 1, impl.MaxList, impl.MaxList + 1} {
		bytesSame(t, "too many", impl.FraudBytes(impl.Fraud{A: f.A, B: f.B, Entries: make([]string, many)}), "")
	}
	bytesSame(t, "the zero one", impl.FraudBytes(impl.Fraud{}), "")
}

func TestFraudReadOfOtherTexts(t *testing.T) {
	r := rand.New(rand.NewSource(seed))
	syntax := impl.FraudOut{Code: impl.ErrSyntax}
	fraudOutSame(t, "the empty text", impl.FraudRead(""), syntax)
	for _, length := range []int{1, 2, 10, 328, 656, impl.MaxBytes - 1, impl.MaxBytes} {
		for _, b := range []string{"\x00", "\x01", "\x02", "x", "\x80", "\xff"} {
			fraudOutSame(t, "one byte, over and over", impl.FraudRead(strings.Repeat(b, length)), syntax)
		}
		fraudOutSame(t, "any bytes", impl.FraudRead(randomText(r, length)), syntax)
	}
	for _, b := range []string{"\x00", "x", "\xff"} {
		fraudOutSame(t, "too long", impl.FraudRead(strings.Repeat(b, impl.MaxBytes+1)), impl.FraudOut{Code: impl.ErrSize})
	}
	text := impl.FraudBytes(rewriteFraud())
	fill := strings.Repeat("x", impl.MaxBytes-len(text))
	fraudOutSame(t, "as long as may be", impl.FraudRead(text+fill), syntax)
	fraudOutSame(t, "one more", impl.FraudRead(text+fill+"x"), impl.FraudOut{Code: impl.ErrSize})
}

func TestFraudReadOfBytesCutAndMore(t *testing.T) {
	syntax := impl.FraudOut{Code: impl.ErrSyntax}
	for what, f := range map[string]impl.Fraud{"split": splitFraud(), "rewrite": rewriteFraud()} {
		text := fraudBytesByHand(f)
		for cut := 0; cut < len(text); cut++ {
			fraudOutSame(t, what+" cut at "+strconv.Itoa(cut), impl.FraudRead(text[:cut]), syntax)
			fraudOutSame(t, what+" from "+strconv.Itoa(cut), impl.FraudRead(text[cut+1:]), syntax)
		}
		for b := 0; b < 256; b++ {
			fraudOutSame(t, what+" and one more", impl.FraudRead(text+string([]byte{byte(b)})), syntax)
		}
		fraudOutSame(t, what+" twice", impl.FraudRead(text+text), syntax)
	}
}

// A byte turned within a digest or an entry makes another fraud; within a length, or a name, mostly none.
func TestFraudReadOfBytesTurned(t *testing.T) {
	text := fraudBytesByHand(rewriteFraud())
	codes := map[int64]int{}
	for at := range text {
		for _, by := range []byte{1, 2, 4, 8, 16, 32, 64, 128, 255} {
			row := []byte(text)
			row[at] ^= by
			want := fraudReadByHand(string(row))
			fraudOutSame(t, "the byte "+strconv.Itoa(at), impl.FraudRead(string(row)), want)
			codes[want.Code]++
		}
	}
	boolSame(t, "some are read, some are not", codes[impl.OK] > 100 && codes[impl.ErrSyntax] > 100, true)
}

func TestFraudReadOfNumbersSpeltLonger(t *testing.T) {
	for _, f := range []impl.Fraud{splitFraud(), rewriteFraud()} {
		plain := spelling{longer: -1}
		bytesSame(t, "as short as may be", plain.fraud(f), impl.FraudBytes(f))
		for number := 0; number < plain.count; number++ {
			text := (&spelling{longer: number}).fraud(f)
			fraudOutSame(t, "the number "+strconv.Itoa(number), impl.FraudRead(text), impl.FraudOut{Code: impl.ErrSyntax})
		}
	}
}

func TestFraudReadOfMoreBehindAHeadText(t *testing.T) {
	f := rewriteFraud()
	lay := func(a string, b string) string {
		s := spelling{longer: -1}
		return s.head(f.A, a) + s.head(f.B, b) + s.num(5) + s.texts(f.Entries)
	}
	fraudOutSame(t, "nothing behind", impl.FraudRead(lay("", "")), impl.FraudOut{Fraud: f})
	for _, more := range []string{"\x00", "x", "\xff", "\x02x", strings.Repeat("x", 100)} {
		fraudOutSame(t, "behind A's", impl.FraudRead(lay(more, "")), impl.FraudOut{Code: impl.ErrSyntax})
		fraudOutSame(t, "behind B's", impl.FraudRead(lay("", more)), impl.FraudOut{Code: impl.ErrSyntax})
	}
}

// A HeadText that ends too early must not go on with what stands behind the text that holds it.
func TestFraudReadOfACutHeadText(t *testing.T) {
	f := rewriteFraud()
	s := spelling{longer: -1}
	signed := headTextByHand(f.A)
	behind := s.num(f.A.Sig.Key) + s.texts(f.A.Sig.Ends) + s.texts(f.A.Sig.Path) + s.head(f.B, "") + s.num(5) + s.texts(f.Entries)
	fraudOutSame(t, "whole", impl.FraudRead(s.text(signed)+behind), impl.FraudOut{Fraud: f})
	for cut := range signed {
		fraudOutSame(t, "cut", impl.FraudRead(s.text(signed[:cut])+behind), impl.FraudOut{Code: impl.ErrSyntax})
		fraudOutSame(t, "its length cut", impl.FraudRead(s.num(int64(cut))+signed+behind), impl.FraudOut{Code: impl.ErrSyntax})
	}
}

// Bytes that are laid in the same way of what is not right are no fraud's.
func TestFraudReadOfWrongOnes(t *testing.T) {
	f := rewriteFraud()
	refused := func(what string, text string) {
		t.Helper()
		want := impl.FraudOut{Code: impl.ErrSyntax}
		if len(text) > impl.MaxBytes {
			want.Code = impl.ErrSize
		}
		if strings.HasSuffix(what, "two lists swapped") {
			want = fraudReadByHand(text) // eight digests in a row are also those of a Sig that is right
		}
		fraudOutSame(t, what, impl.FraudRead(text), want)
	}
	for what, wrong := range wrongHeads(f.A) {
		refused("A: "+what, fraudBytesByHand(impl.Fraud{A: wrong, B: f.B, Entries: f.Entries}))
		refused("B: "+what, fraudBytesByHand(impl.Fraud{A: f.A, B: wrong, Entries: f.Entries}))
	}
	for what, wrong := range wrongEntries() {
		refused(what, fraudBytesByHand(impl.Fraud{A: f.A, B: f.B, Entries: wrong}))
	}
	for _, many := range []int{impl.MaxLeaves + 1, impl.MaxList, impl.MaxList + 1, 15000} {
		refused("too many", fraudBytesByHand(impl.Fraud{A: f.A, B: f.B, Entries: make([]string, many)}))
	}
	front := fraudBytesByHand(impl.Fraud{A: f.A, B: f.B})
	front = front[:len(front)-1]
	for _, many := range []int64{-1, -5, -64, 1, 4, 6, 64, 65, math.MinInt64, math.MaxInt64, 1<<32 + 5} {
		refused("another count", front+numByVarint(many)+(&spelling{longer: -1}).texts(f.Entries))
		refused("another count", front+numByVarint(many))
	}
}

// The bytes are asked for what they are, not for what they prove.
func TestFraudReadAsksForNoFraud(t *testing.T) {
	a, b := headByHand("seed", 0, "log", numbered(3), 1), headByHand("other", 1, "log2", numbered(2), 2)
	for _, f := range []impl.Fraud{{A: a, B: a}, {A: a, B: b}, {A: b, B: a, Entries: []string{"x"}}} {
		boolSame(t, "no fraud", impl.Judge(impl.KeyRoot("seed"), f), false)
		fraudOutSame(t, "what comes back", impl.FraudRead(impl.FraudBytes(f)), impl.FraudOut{Fraud: f})
	}
}

func TestTheJudgeChangesNothing(t *testing.T) {
	f := rewriteFraud()
	room := func(l []string) []string { return append(make([]string, 0, 100), l...) }
	f.Entries = room(f.Entries)
	f.A.Sig.Ends, f.A.Sig.Path = room(f.A.Sig.Ends), room(f.A.Sig.Path)
	f.B.Sig.Ends, f.B.Sig.Path = room(f.B.Sig.Ends), room(f.B.Sig.Path)
	before := fraudCopy(f)
	boolSame(t, "guilty", impl.Judge(impl.KeyRoot("seed"), f), true)
	bytesSame(t, "the bytes", impl.FraudBytes(f), fraudBytesByHand(before))
	boolSame(t, "what was handed in", fraudEqual(f, before), true)
	for _, l := range [][]string{f.Entries, f.A.Sig.Ends, f.A.Sig.Path, f.B.Sig.Ends, f.B.Sig.Path} {
		for _, one := range l[len(l):100] {
			bytesSame(t, "the room behind a list", one, "")
		}
	}
}

func TestFraudReadAnswersNewLists(t *testing.T) {
	f := rewriteFraud()
	text := impl.FraudBytes(f)
	got := impl.FraudRead(text).Fraud
	lists := [][]string{got.Entries, got.A.Sig.Ends, got.A.Sig.Path, got.B.Sig.Ends, got.B.Sig.Path}
	for at, l := range lists {
		was := slices.Clone(l)
		for other, m := range lists {
			if other != at {
				_ = append(m, "x", "x", "x")
				for i := range m {
					m[i] = "y"
				}
			}
		}
		listSame(t, "beside other lists", l, was)
		for i := range l {
			l[i] = "y"
		}
	}
	fraudOutSame(t, "read once more", impl.FraudRead(text), impl.FraudOut{Fraud: f})
}
