package tests

import (
	"encoding/binary"
	"math"
	"math/rand"
	"slices"
	"strconv"
	"strings"
	"testing"

	"loop.example/g00390/impl"
)

// What the program answers is held against heads whose texts are laid with Go's own numbers of seven bits.

func numByVarint(n int64) string {
	return string(binary.AppendVarint(nil, n))
}

func headTextByHand(h impl.Head) string {
	return numByVarint(int64(len(h.Log))) + h.Log + numByVarint(h.Size) +
		numByVarint(int64(len(h.Root))) + h.Root + numByVarint(h.Time)
}

func headByHand(seed string, key int, log string, entries []string, time int64) impl.Head {
	h := impl.Head{Log: log, Size: int64(len(entries)), Root: treeByCut(entries), Time: time}
	h.Sig = signBySha(seed, key, headTextByHand(h))
	return h
}

func headEqual(a impl.Head, b impl.Head) bool {
	return a.Log == b.Log && a.Size == b.Size && a.Root == b.Root && a.Time == b.Time && a.Sig.Key == b.Sig.Key &&
		slices.Equal(a.Sig.Ends, b.Sig.Ends) && slices.Equal(a.Sig.Path, b.Sig.Path)
}

func headSame(t *testing.T, what string, got impl.Head, want impl.Head) {
	t.Helper()
	if !headEqual(got, want) {
		t.Errorf("%s: got %.60q, Size %d, Root %x, Time %d, Sig %x, want %.60q, Size %d, Root %x, Time %d, Sig %x", what,
			got.Log, got.Size, got.Root, got.Time, got.Sig, want.Log, want.Size, want.Root, want.Time, want.Sig)
	}
}

// headCopy shares nothing with h: a test may change one and hold it against the other.
func headCopy(h impl.Head) impl.Head {
	h.Sig = sigCopy(h.Sig)
	return h
}

// randomHead is right, but signed by nobody.
func randomHead(r *rand.Rand) impl.Head {
	return impl.Head{
		Log:  "log" + strconv.Itoa(r.Intn(1000)),
		Size: int64(r.Intn(impl.MaxLeaves + 1)),
		Root: randomText(r, 32),
		Time: int64(r.Intn(impl.MaxTime + 1)),
		Sig:  impl.Sig{Key: int64(r.Intn(4)), Ends: randomDigests(r, 6), Path: randomDigests(r, 2)},
	}
}

func rightNames() []string {
	return []string{"a", "z", "log", "a_9", "z__", "m0", strings.Repeat("l", 20), "l" + strings.Repeat("_", 19), "l" + strings.Repeat("9", 19)}
}

func wrongNames() []string {
	return []string{"", "_", "_log", "0", "9log", "Log", "loG", "log ", " log", "lo-g", "log\n", "log\x00", "\xff", "é", "`", "{",
		strings.Repeat("l", 21), strings.Repeat("l", 100), strings.Repeat("l", impl.MaxBytes), strings.Repeat("l", impl.MaxBytes+1)}
}

func rightTimes() []int64 {
	return []int64{0, 1, 63, 64, 8191, 8192, 1 << 20, impl.MaxTime - 1, impl.MaxTime}
}

func wrongTimes() []int64 {
	return []int64{-1, -2, -impl.MaxTime, impl.MaxTime + 1, 1 << 32, 1<<32 + 1, math.MinInt64, math.MaxInt64}
}

func wrongSizes() []int64 {
	return []int64{-1, -2, -64, impl.MaxLeaves + 1, 128, impl.MaxList, 1 << 32, 1<<32 + 1, math.MinInt64, math.MaxInt64}
}

// otherLengths of h's Root, and of a root that is handed in, are refused.
func otherLengths(digest string) []string {
	var l []string
	for _, length := range []int{0, 1, 20, 31, 33, 64, impl.MaxBytes, impl.MaxBytes + 1} {
		l = append(l, (digest + strings.Repeat("x", impl.MaxBytes))[:length])
	}
	return l
}

// wrongHeads are of h, but not right: each in one field.
func wrongHeads(h impl.Head) map[string]impl.Head {
	l := map[string]impl.Head{"the zero one": {}}
	changed := func(what string, change func(h *impl.Head)) {
		one := headCopy(h)
		change(&one)
		l[what] = one
	}
	for _, name := range wrongNames() {
		changed("the Log "+strconv.Itoa(len(name))+" "+(name + "...")[:3], func(h *impl.Head) { h.Log = name })
	}
	for _, size := range wrongSizes() {
		changed("the Size "+strconv.FormatInt(size, 10), func(h *impl.Head) { h.Size = size })
	}
	for _, root := range otherLengths(h.Root) {
		changed("a Root of "+strconv.Itoa(len(root)), func(h *impl.Head) { h.Root = root })
	}
	for _, time := range wrongTimes() {
		changed("the Time "+strconv.FormatInt(time, 10), func(h *impl.Head) { h.Time = time })
	}
	for what, sig := range wrongSigs(h.Sig) {
		changed("the Sig: "+what, func(h *impl.Head) { h.Sig = sig })
	}
	return l
}

func TestKnownHeads(t *testing.T) {
	h := impl.HeadSign("seed", 1, "log", []string{"a"}, 7)
	root := "022a6979e6dab7aa5ae4c3e5e45f7e977112a7e63593820dbec1ec738a24f93c" // of a byte 0 and "a"
	hexSame(t, "the Root", h.Root, root)
	hexSame(t, "the text", impl.HeadText(h), "066c6f67"+"02"+"40"+root+"0e")
	sigSame(t, "the Sig", h.Sig, signBySha("seed", 1, "\x06log\x02\x40"+h.Root+"\x0e"))
	none := impl.HeadSign("seed", 0, "l", nil, impl.MaxTime)
	empty := "e3b0c44298fc1c149afbf4c8996fb92427ae41e4649b934ca495991b7852b855"
	hexSame(t, "the Root of nothing", none.Root, empty)
	hexSame(t, "the text of nothing", impl.HeadText(none), "026c"+"00"+"40"+empty+"80a8d6b907")
}

func TestHeadSignOfEachSize(t *testing.T) {
	for size := 0; size <= impl.MaxLeaves; size++ {
		key := size % 4
		h := impl.HeadSign("seed", int64(key), "log", numbered(size), int64(size))
		headSame(t, strconv.Itoa(size), h, headByHand("seed", key, "log", numbered(size), int64(size)))
	}
	headSame(t, "an empty list", impl.HeadSign("seed", 1, "log", []string{}, 3), headByHand("seed", 1, "log", nil, 3))
}

func TestHeadSignEdges(t *testing.T) {
	entries := []string{"", strings.Repeat("x", impl.MaxEntry), "c"}
	for _, name := range rightNames() {
		headSame(t, "the name "+name, impl.HeadSign("seed", 0, name, entries, 5), headByHand("seed", 0, name, entries, 5))
	}
	for _, time := range rightTimes() {
		headSame(t, "a time", impl.HeadSign("seed", 1, "log", entries, time), headByHand("seed", 1, "log", entries, time))
	}
	for _, length := range []int{1, 2, 63, 64} {
		text := strings.Repeat("s", length)
		headSame(t, "a seed", impl.HeadSign(text, 2, "log", entries, 5), headByHand(text, 2, "log", entries, 5))
	}
	for key := 0; key < 4; key++ {
		headSame(t, "a key", impl.HeadSign("seed", int64(key), "log", entries, 5), headByHand("seed", key, "log", entries, 5))
	}
	full := slices.Repeat([]string{strings.Repeat("x", impl.MaxEntry)}, impl.MaxLeaves)
	headSame(t, "the most there may be", impl.HeadSign("seed", 3, "log", full, 5), headByHand("seed", 3, "log", full, 5))
	blank := make([]string, impl.MaxLeaves)
	headSame(t, "empty entries", impl.HeadSign("seed", 3, "log", blank, 5), headByHand("seed", 3, "log", blank, 5))
}

func TestHeadSignRefuses(t *testing.T) {
	zero := impl.Head{}
	for _, wrong := range wrongSeeds() {
		headSame(t, "no seed", impl.HeadSign(wrong, 1, "log", numbered(3), 5), zero)
	}
	for _, wrong := range wrongKeys() {
		headSame(t, "no key", impl.HeadSign("seed", wrong, "log", numbered(3), 5), zero)
	}
	for _, wrong := range wrongNames() {
		headSame(t, "no name", impl.HeadSign("seed", 1, wrong, numbered(3), 5), zero)
	}
	for what, wrong := range wrongEntries() {
		headSame(t, what, impl.HeadSign("seed", 1, "log", wrong, 5), zero)
	}
	for _, wrong := range wrongTimes() {
		headSame(t, "no time", impl.HeadSign("seed", 1, "log", numbered(3), wrong), zero)
	}
	headSame(t, "nothing right", impl.HeadSign("", -1, "", numbered(impl.MaxList+1), -1), zero)
}

func TestHeadRight(t *testing.T) {
	r := rand.New(rand.NewSource(seed))
	for i := 0; i < 500; i++ {
		boolSame(t, "signed by nobody", impl.HeadRight(randomHead(r)), true)
	}
	h := randomHead(r)
	for _, name := range rightNames() {
		h.Log = name
		boolSame(t, "the name "+name, impl.HeadRight(h), true)
	}
	for size := int64(0); size <= impl.MaxLeaves; size++ {
		h.Size = size
		boolSame(t, "a Size", impl.HeadRight(h), true)
	}
	for _, time := range rightTimes() {
		h.Time = time
		boolSame(t, "a Time", impl.HeadRight(h), true)
	}
	for key := int64(0); key < 4; key++ {
		h.Sig.Key = key
		boolSame(t, "a Key", impl.HeadRight(h), true)
	}
	h.Root = strings.Repeat("\x00", 32)
	boolSame(t, "a Root of bytes 0", impl.HeadRight(h), true)
}

func TestWrongHeads(t *testing.T) {
	h := headByHand("seed", 2, "log", numbered(5), 9)
	root := keyRootBySha("seed")
	other := headByHand("seed", 1, "log", with(numbered(5), 4, "other"), 9)
	boolSame(t, "as it was signed", impl.HeadRight(h) && impl.HeadGood(root, h) && impl.Conflict(h, other), true)
	for what, wrong := range wrongHeads(h) {
		boolSame(t, what, impl.HeadRight(wrong), false)
		bytesSame(t, what, impl.HeadText(wrong), "")
		boolSame(t, what, impl.HeadGood(root, wrong), false)
		boolSame(t, what, impl.Conflict(wrong, other), false)
		boolSame(t, what, impl.Conflict(other, wrong), false)
	}
}

// Two heads that are not right in the same way are alike in Log and Size, and yet in no conflict.
func TestConflictOfTwoWrongHeads(t *testing.T) {
	r := rand.New(rand.NewSource(seed))
	for what, wrong := range wrongHeads(randomHead(r)) {
		other := headCopy(wrong)
		other.Root = randomText(r, max(1, len(wrong.Root)))
		boolSame(t, what, impl.Conflict(wrong, other) || impl.Conflict(other, wrong), false)
	}
}

// What is signed under another form of a head that is not right is no good: the form is asked first.
func TestHeadGoodAsksForAFormThatIsRight(t *testing.T) {
	root := keyRootBySha("seed")
	for what, h := range wrongHeads(headByHand("seed", 2, "log", numbered(5), 9)) {
		if !strings.HasPrefix(what, "the Sig") && len(h.Log) < impl.MaxBytes && len(h.Root) < impl.MaxBytes {
			h.Sig = signBySha("seed", 2, headTextByHand(h))
			boolSame(t, what, impl.HeadGood(root, h), false)
			h.Sig = signBySha("seed", 2, "")
			boolSame(t, what+", nothing signed", impl.HeadGood(root, h), false)
		}
	}
}

func TestHeadText(t *testing.T) {
	r := rand.New(rand.NewSource(seed))
	for i := 0; i < 500; i++ {
		h := randomHead(r)
		bytesSame(t, "any right one", impl.HeadText(h), headTextByHand(h))
	}
	h := randomHead(r)
	for _, name := range rightNames() {
		for _, time := range rightTimes() {
			for _, size := range []int64{0, 1, 63, 64} {
				h.Log, h.Time, h.Size = name, time, size
				bytesSame(t, "at the edges", impl.HeadText(h), headTextByHand(h))
			}
		}
	}
	text := impl.HeadText(h)
	h.Sig = impl.Sig{Key: 3 - h.Sig.Key, Ends: randomDigests(r, 6), Path: randomDigests(r, 2)}
	bytesSame(t, "the Sig is not in it", impl.HeadText(h), text)
}

// A text has all that is signed of a head: its fields come back from it.
func TestHeadTextComesBack(t *testing.T) {
	r := rand.New(rand.NewSource(seed))
	for i := 0; i < 300; i++ {
		h := randomHead(r)
		text := impl.HeadText(h)
		log := impl.GetText(text, 0)
		size := impl.GetNum(text, log.At)
		root := impl.GetText(text, size.At)
		time := impl.GetNum(text, root.At)
		back := impl.Head{Log: log.Text, Size: size.N, Root: root.Text, Time: time.N, Sig: h.Sig}
		headSame(t, "what comes back", back, h)
		boolSame(t, "nothing is behind it", time.At == int64(len(text)), true)
	}
}

// Promise 7, its first half.
func TestSignedHeadIsGood(t *testing.T) {
	r := rand.New(rand.NewSource(seed))
	for size := 0; size <= impl.MaxLeaves; size++ {
		text := randomText(r, 1+r.Intn(64))
		root := impl.KeyRoot(text)
		for key := int64(0); key < 4; key++ {
			h := impl.HeadSign(text, key, rightNames()[r.Intn(len(rightNames()))], numbered(size), int64(r.Intn(impl.MaxTime+1)))
			boolSame(t, "is right", impl.HeadRight(h), true)
			boolSame(t, "is good", impl.HeadGood(root, h), true)
			boolSame(t, "is good by its text", impl.Verify(root, headTextByHand(h), h.Sig), true)
		}
	}
	root := impl.KeyRoot("seed")
	for _, name := range rightNames() {
		for _, time := range rightTimes() {
			boolSame(t, "at the edges", impl.HeadGood(root, impl.HeadSign("seed", 3, name, numbered(2), time)), true)
		}
	}
}

// Only Log, Size, Root and Time are bound by the Sig: what the Root is the tree of is not asked.
func TestHeadGoodAsksForNoTree(t *testing.T) {
	r := rand.New(rand.NewSource(seed))
	for i := 0; i < 20; i++ {
		h := randomHead(r)
		boolSame(t, "signed by nobody", impl.HeadGood(keyRootBySha("seed"), h), false)
		h.Sig = signBySha("seed", i%4, headTextByHand(h))
		boolSame(t, "signed", impl.HeadGood(keyRootBySha("seed"), h), true)
	}
}

// turnedHeads are right, and each is h but for one field of what was signed.
func turnedHeads(h impl.Head) []impl.Head {
	var l []impl.Head
	for _, log := range []string{"lo", "logs", "lof", "kog", "log_", "l"} {
		one := headCopy(h)
		one.Log = log
		l = append(l, one)
	}
	for size := int64(0); size <= impl.MaxLeaves; size++ {
		one := headCopy(h)
		one.Size = size
		l = append(l, one)
	}
	for bit := 0; bit < 256; bit++ {
		one := headCopy(h)
		one.Root = turned(h.Root, bit)
		l = append(l, one)
	}
	for _, time := range append(rightTimes(), h.Time-1, h.Time+1) {
		one := headCopy(h)
		one.Time = time
		l = append(l, one)
	}
	return l
}

// A head is verified by another one's Sig just if its text has the same digits.
func TestHeadGoodRefusesWhatIsTurned(t *testing.T) {
	h := impl.HeadSign("seed", 2, "log", numbered(5), 9)
	root := impl.KeyRoot("seed")
	digits := digitsBySha(headTextByHand(h))
	refused := 0
	for _, one := range turnedHeads(h) {
		alike := slices.Equal(digitsBySha(headTextByHand(one)), digits)
		boolSame(t, "one field turned", impl.HeadGood(root, one), alike)
		boolSame(t, "it is right", impl.HeadRight(one), true)
		if !alike {
			refused++
		}
	}
	boolSame(t, "nearly all are refused", refused > 300, true)
	for bit := 0; bit < 256; bit += 7 {
		for at := range h.Sig.Ends {
			one := headCopy(h)
			one.Sig.Ends[at] = turned(one.Sig.Ends[at], bit)
			boolSame(t, "an End turned", impl.HeadGood(root, one), false)
		}
		for at := range h.Sig.Path {
			one := headCopy(h)
			one.Sig.Path[at] = turned(one.Sig.Path[at], bit)
			boolSame(t, "the Path turned", impl.HeadGood(root, one), false)
		}
	}
}

// A Sig binds 16 bits of a text's Digest: the document has a head of the same digits verified by it, too.
func TestHeadGoodOfTheSameDigits(t *testing.T) {
	h := impl.HeadSign("seed", 2, "log", numbered(5), 9)
	digits := digitsBySha(headTextByHand(h))
	one := headCopy(h)
	for one.Time++; !slices.Equal(digitsBySha(headTextByHand(one)), digits); one.Time++ {
		if one.Time == 2000000 {
			t.Fatal("no Time of such digits")
		}
	}
	boolSame(t, "another Time", impl.HeadGood(impl.KeyRoot("seed"), one), true)
	boolSame(t, "another Time", impl.Conflict(h, one), false)
}

func TestHeadGoodOfOtherSigs(t *testing.T) {
	root := impl.KeyRoot("seed")
	h := impl.HeadSign("seed", 2, "log", numbered(5), 9)
	for key := int64(0); key < 4; key++ {
		one := headCopy(h)
		one.Sig.Key = key
		boolSame(t, "another Key", impl.HeadGood(root, one), key == 2)
		one.Sig = impl.Sign("seed", key, headTextByHand(h))
		boolSame(t, "signed by any key", impl.HeadGood(root, one), true)
		one.Sig = impl.Sign("seed", key, "")
		boolSame(t, "nothing signed", impl.HeadGood(root, one), false)
		one.Sig = impl.Sign("other", key, headTextByHand(h))
		boolSame(t, "signed by another seed", impl.HeadGood(root, one), false)
		one.Sig = impl.HeadSign("seed", key, "log", numbered(6), 9).Sig
		boolSame(t, "another head's Sig", impl.HeadGood(root, one), false)
	}
}

func TestHeadGoodUnderOtherRoots(t *testing.T) {
	h := impl.HeadSign("seed", 1, "log", numbered(5), 9)
	root := impl.KeyRoot("seed")
	boolSame(t, "its seed's", impl.HeadGood(root, h), true)
	for _, other := range []string{"x", "see", "seedx", "Seed", "seed\x01"} {
		boolSame(t, "another seed's", impl.HeadGood(impl.KeyRoot(other), h), false)
	}
	for bit := 0; bit < 256; bit++ {
		boolSame(t, "a bit turned", impl.HeadGood(turned(root, bit), h), false)
	}
	for _, wrong := range otherLengths(root) {
		boolSame(t, "of "+strconv.Itoa(len(wrong)), impl.HeadGood(wrong, h), false)
	}
	boolSame(t, "the Root of its entries", impl.HeadGood(h.Root, h), false)
}

// Promise 7, its second half.
func TestConflictEitherWayRound(t *testing.T) {
	r := rand.New(rand.NewSource(seed))
	var heads []impl.Head
	roots := randomDigests(r, 3)
	for i := 0; i < 120; i++ {
		h := randomHead(r)
		h.Log, h.Size, h.Root = []string{"a", "b"}[r.Intn(2)], int64(63+r.Intn(2)), roots[r.Intn(3)]
		heads = append(heads, h)
	}
	found := 0
	for _, a := range heads {
		for _, b := range heads {
			want := a.Log == b.Log && a.Size == b.Size && a.Root != b.Root
			boolSame(t, "one way round", impl.Conflict(a, b), want)
			boolSame(t, "the other way round", impl.Conflict(b, a), want)
			if want {
				found++
			}
		}
	}
	boolSame(t, "some are in conflict, some are not", found > 0 && found < len(heads)*len(heads), true)
}

func TestConflictOfSignedHeads(t *testing.T) {
	for size := 1; size <= impl.MaxLeaves; size++ {
		a := impl.HeadSign("seed", 0, "log", numbered(size), 3)
		b := impl.HeadSign("seed", 1, "log", with(numbered(size), size-1, "other"), 3)
		boolSame(t, "another last entry", impl.Conflict(a, b) && impl.Conflict(b, a), true)
		boolSame(t, "with itself", impl.Conflict(a, a) || impl.Conflict(b, b), false)
		again := impl.HeadSign("seed", 2, "log", numbered(size), 4)
		boolSame(t, "the same once more", impl.Conflict(a, again) || impl.Conflict(again, a), false)
		more := impl.HeadSign("seed", 1, "log", numbered(size-1), 3)
		boolSame(t, "another Size", impl.Conflict(a, more) || impl.Conflict(more, a), false)
		far := impl.HeadSign("seed", 1, "log2", with(numbered(size), size-1, "other"), 3)
		boolSame(t, "another Log", impl.Conflict(a, far) || impl.Conflict(far, a), false)
	}
	none := impl.HeadSign("seed", 0, "log", nil, 3)
	boolSame(t, "of nothing", impl.Conflict(none, impl.HeadSign("seed", 1, "log", nil, 4)), false)
}

// Time and Sig are no part of it: unlike Roots are enough, and needed.
func TestConflictAsksForRootsAlone(t *testing.T) {
	r := rand.New(rand.NewSource(seed))
	for i := 0; i < 100; i++ {
		a := randomHead(r)
		b := headCopy(a)
		boolSame(t, "alike in all", impl.Conflict(a, b), false)
		b.Root = turned(b.Root, r.Intn(256))
		boolSame(t, "a bit of the Root", impl.Conflict(a, b) && impl.Conflict(b, a), true)
		b.Time = int64(r.Intn(impl.MaxTime))
		b.Sig = randomHead(r).Sig
		boolSame(t, "another Time and Sig, too", impl.Conflict(a, b) && impl.Conflict(b, a), true)
		b.Root = a.Root
		boolSame(t, "another Time and Sig alone", impl.Conflict(a, b) || impl.Conflict(b, a), false)
		b.Root, b.Size = randomText(r, 32), (a.Size+1)%65
		boolSame(t, "another Size and Root", impl.Conflict(a, b) || impl.Conflict(b, a), false)
		b.Size, b.Log = a.Size, a.Log+"_"
		boolSame(t, "another Log and Root", impl.Conflict(a, b) || impl.Conflict(b, a), false)
	}
}

func TestHeadsChangeNothing(t *testing.T) {
	entries := append(numbered(5), "room", "behind")
	was := slices.Clone(entries)
	h := impl.HeadSign("seed", 3, "log", entries[:5], 9)
	listSame(t, "the entries", entries, was)
	// Room behind the lists would be written into by an append that takes it for its own.
	h.Sig.Ends = append(make([]string, 0, 20), h.Sig.Ends...)
	h.Sig.Path = append(make([]string, 0, 20), h.Sig.Path...)
	before := headCopy(h)
	boolSame(t, "good", impl.HeadRight(h) && impl.HeadGood(impl.KeyRoot("seed"), h) && !impl.Conflict(h, h), true)
	bytesSame(t, "the text", impl.HeadText(h), headTextByHand(before))
	headSame(t, "what was handed in", h, before)
	for _, room := range append(h.Sig.Ends[6:20], h.Sig.Path[2:20]...) {
		bytesSame(t, "the room behind the lists", room, "")
	}
}

func TestHeadSignAnswersNewLists(t *testing.T) {
	h := impl.HeadSign("seed", 3, "log", numbered(5), 9)
	want := headCopy(h)
	for at := range h.Sig.Ends {
		h.Sig.Ends[at] = "x"
	}
	listSame(t, "Path beside other Ends", h.Sig.Path, want.Sig.Path)
	h.Sig.Path = append(h.Sig.Path[:0], "y", "z")
	headSame(t, "signed once more", impl.HeadSign("seed", 3, "log", numbered(5), 9), want)
}
