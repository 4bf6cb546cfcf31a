package tests

import (
	"math"
	"math/bits"
	"math/rand"
	"slices"
	"strconv"
	"strings"
	"testing"

	"loop.example/g00390/impl"
)

const greatestRange = 1000000

// What the program answers is held against trees cut as the document says, made with Go's own SHA-256 ..

func leafBySha(text string) string {
	return shaOf("\x00" + text)
}

func nodeBySha(left string, right string) string {
	return shaOf("\x01" + left + right)
}

func powerBelow(n int) int {
	k := 1
	for 2*k < n {
		k *= 2
	}
	return k
}

func treeByCut(entries []string) string {
	switch len(entries) {
	case 0:
		return shaOf("")
	case 1:
		return leafBySha(entries[0])
	}
	k := powerBelow(len(entries))
	return nodeBySha(treeByCut(entries[:k]), treeByCut(entries[k:]))
}

func pathByCut(entries []string, index int) []string {
	if len(entries) == 1 {
		return nil
	}
	k := powerBelow(len(entries))
	if index < k {
		return append(pathByCut(entries[:k], index), treeByCut(entries[k:]))
	}
	return append(pathByCut(entries[k:], index-k), treeByCut(entries[:k]))
}

func proofByCut(entries []string, old int, whole bool) []string {
	if old == len(entries) && whole {
		return nil
	}
	if old == len(entries) {
		return []string{treeByCut(entries)}
	}
	k := powerBelow(len(entries))
	if old <= k {
		return append(proofByCut(entries[:k], old, whole), treeByCut(entries[k:]))
	}
	return append(proofByCut(entries[k:], old-k, false), treeByCut(entries[:k]))
}

// .. and against the ways of RFC 9162 to verify, which go from the bottom up, bit by bit.

// climbByBits answers what a path leads to, if it is of the length that it must have.
func climbByBits(leaf string, index int64, size int64, path []string) (string, bool) {
	at, end, now := index, size-1, leaf
	for _, p := range path {
		if end == 0 {
			return "", false
		}
		if at&1 == 1 || at == end {
			now = nodeBySha(p, now)
			for at&1 == 0 && at != 0 {
				at, end = at>>1, end>>1
			}
		} else {
			now = nodeBySha(now, p)
		}
		at, end = at>>1, end>>1
	}
	return now, end == 0
}

// retraceByBits answers what a proof makes of old below size, if it is of the length that it must have.
func retraceByBits(old int64, size int64, proof []string, was string) (string, string, bool) {
	if bits.OnesCount64(uint64(old)) == 1 {
		proof = append([]string{was}, proof...)
	}
	if len(proof) < 1 {
		return "", "", false
	}
	at, end := old-1, size-1
	for at&1 == 1 {
		at, end = at>>1, end>>1
	}
	before, now := proof[0], proof[0]
	for _, p := range proof[1:] {
		if end == 0 {
			return "", "", false
		}
		if at&1 == 1 || at == end {
			before, now = nodeBySha(p, before), nodeBySha(p, now)
			for at&1 == 0 && at != 0 {
				at, end = at>>1, end>>1
			}
		} else {
			now = nodeBySha(now, p)
		}
		at, end = at>>1, end>>1
	}
	return before, now, end == 0
}

func numbered(n int) []string {
	var l []string
	for i := 0; i < n; i++ {
		l = append(l, "entry "+strconv.Itoa(i))
	}
	return l
}

func randomDigests(r *rand.Rand, n int) []string {
	var l []string
	for i := 0; i < n; i++ {
		l = append(l, randomText(r, 32))
	}
	return l
}

// turned has one bit of one byte turned.
func turned(digest string, bit int) string {
	row := []byte(digest)
	row[bit/8] ^= 1 << (bit % 8)
	return string(row)
}

// with is a list of its own, with another text at one place.
func with(l []string, at int, text string) []string {
	own := slices.Clone(l)
	own[at] = text
	return own
}

func listSame(t *testing.T, what string, got []string, want []string) {
	t.Helper()
	if !slices.Equal(got, want) {
		t.Errorf("%s: got %d texts %x, want %d texts %x", what, len(got), got, len(want), want)
	}
}

func rangeSame(t *testing.T, what string, got impl.Range, want impl.Range) {
	t.Helper()
	if got.Size != want.Size || !slices.Equal(got.Nodes, want.Nodes) {
		t.Errorf("%s: got Size %d and Nodes %x, want Size %d and Nodes %x", what, got.Size, got.Nodes, want.Size, want.Nodes)
	}
}

func boolSame(t *testing.T, what string, got bool, want bool) {
	t.Helper()
	if got != want {
		t.Errorf("%s: got %v, want %v", what, got, want)
	}
}

// wrongEntries are lists of which no tree, path or proof is told.
func wrongEntries() map[string][]string {
	long := strings.Repeat("x", impl.MaxEntry+1)
	return map[string][]string{
		"one too many":               numbered(impl.MaxLeaves + 1),
		"empty ones, one too many":   make([]string, impl.MaxLeaves+1),
		"as many as a list may have": numbered(impl.MaxList),
		"more than a list may have":  numbered(impl.MaxList + 1),
		"a first one too long":       with(numbered(8), 0, long),
		"a last one too long":        with(numbered(8), 7, long),
		"one within too long":        with(numbered(8), 3, long),
		"a single one too long":      {long},
		"one far too long":           with(numbered(2), 1, strings.Repeat("x", impl.MaxBytes+1)),
	}
}

func TestConstantsOfTrees(t *testing.T) {
	if impl.MaxLeaves != 64 || impl.MaxEntry != 100 {
		t.Errorf("got MaxLeaves %d and MaxEntry %d", impl.MaxLeaves, impl.MaxEntry)
	}
}

func TestLeafHash(t *testing.T) {
	r := rand.New(rand.NewSource(seed))
	for length := 0; length <= impl.MaxEntry; length++ {
		text := randomText(r, length)
		bytesSame(t, "LeafHash", impl.LeafHash(text), leafBySha(text))
	}
	hexSame(t, "the leaf of nothing", impl.LeafHash(""), "6e340b9cffb37a989ca544e6bb780a2c78901d3fb33738768511a30617afa01d")
	for _, length := range []int{impl.MaxEntry + 1, impl.MaxEntry + 28, 1000, impl.MaxBytes, impl.MaxBytes + 1} {
		bytesSame(t, "a text too long", impl.LeafHash(strings.Repeat("x", length)), "")
	}
}

func TestNodeHash(t *testing.T) {
	r := rand.New(rand.NewSource(seed))
	for i := 0; i < 100; i++ {
		left, right := randomText(r, 32), randomText(r, 32)
		bytesSame(t, "NodeHash", impl.NodeHash(left, right), nodeBySha(left, right))
	}
	good := randomText(r, 32)
	bytesSame(t, "one twice", impl.NodeHash(good, good), nodeBySha(good, good))
	for _, length := range []int{0, 1, 31, 33, 64, impl.MaxBytes, impl.MaxBytes + 1} {
		wrong := randomText(r, length)
		bytesSame(t, "a left one of another length", impl.NodeHash(wrong, good), "")
		bytesSame(t, "a right one of another length", impl.NodeHash(good, wrong), "")
		bytesSame(t, "two of another length", impl.NodeHash(wrong, wrong), "")
	}
	bytesSame(t, "64 bytes in all", impl.NodeHash(good+"x", good[:31]), "")
}

// The entries and trees that logs of certificates are tested with.
func TestKnownTrees(t *testing.T) {
	entries := []string{"", "\x00", "\x10", "\x20\x21", "\x30\x31", "\x40\x41\x42\x43",
		"\x50\x51\x52\x53\x54\x55\x56\x57", "\x60\x61\x62\x63\x64\x65\x66\x67\x68\x69\x6a\x6b\x6c\x6d\x6e\x6f"}
	want := []string{
		"e3b0c44298fc1c149afbf4c8996fb92427ae41e4649b934ca495991b7852b855",
		"6e340b9cffb37a989ca544e6bb780a2c78901d3fb33738768511a30617afa01d",
		"fac54203e7cc696cf0dfcb42c92a1d9dbaf70ad9e621f4bd8d98662f00e3c125",
		"aeb6bcfe274b70a14fb067a5e5578264db0fa9b51af5e0ba159158f329e06e77",
		"d37ee418976dd95753c1c73862b9398fa2a2cf9b4ff0fdfe8b30cd95209614b7",
		"4e3bbb1f7b478dcfe71fb631631519a3bca12c9aefca1612bfce4c13a86264d4",
		"76e67dadbcdf1e10e1b74ddc608abd2f98dfb16fbce75277b5232a127f2087ef",
		"ddb89be403809e325750d3d263cd78929c2942b7942a34b77e122c9594a74c8c",
		"5dc9da79a70659a9ad559cb701ded9a2ab9d823aad2f4960cfe370eff4604328",
	}
	for n := range want {
		hexSame(t, strconv.Itoa(n)+" entries", impl.TreeHash(entries[:n]), want[n])
	}
}

func TestTreeHashOfEachSize(t *testing.T) {
	r := rand.New(rand.NewSource(seed))
	for n := 0; n <= impl.MaxLeaves; n++ {
		bytesSame(t, "numbered", impl.TreeHash(numbered(n)), treeByCut(numbered(n)))
		var others []string
		for i := 0; i < n; i++ {
			others = append(others, randomText(r, r.Intn(impl.MaxEntry+1)))
		}
		bytesSame(t, "of any length", impl.TreeHash(others), treeByCut(others))
		alike := make([]string, n)
		bytesSame(t, "all empty", impl.TreeHash(alike), treeByCut(alike))
	}
	bytesSame(t, "no list", impl.TreeHash(nil), shaOf(""))
	bytesSame(t, "an empty list", impl.TreeHash([]string{}), shaOf(""))
}

func TestTreeHashEdges(t *testing.T) {
	longest := make([]string, impl.MaxLeaves)
	for i := range longest {
		longest[i] = strings.Repeat(string(rune('a'+i%26)), impl.MaxEntry)
	}
	bytesSame(t, "the most, and the longest", impl.TreeHash(longest), treeByCut(longest))
	bytesSame(t, "one of the longest", impl.TreeHash(longest[:1]), treeByCut(longest[:1]))
	for what, entries := range wrongEntries() {
		bytesSame(t, what, impl.TreeHash(entries), "")
	}
}

func TestPathOfEachEntry(t *testing.T) {
	for n := 1; n <= impl.MaxLeaves; n++ {
		entries := numbered(n)
		for index := 0; index < n; index++ {
			listSame(t, "PathOf", impl.PathOf(entries, int64(index)), pathByCut(entries, index))
		}
	}
}

func TestPathOfEdges(t *testing.T) {
	l := numbered(7)
	listSame(t, "of one there is nothing to put to it", impl.PathOf(l[:1], 0), nil)
	listSame(t, "the second of two", impl.PathOf(l[:2], 1), []string{leafBySha(l[0])})
	listSame(t, "the last of seven", impl.PathOf(l, 6), []string{treeByCut(l[4:6]), treeByCut(l[:4])})
	for _, n := range []int{0, 1, 2, 3, 4, 5, 7, 8, 9, 63, impl.MaxLeaves} {
		for _, index := range []int64{-1, -2, int64(n), int64(n) + 1, math.MinInt64, math.MaxInt64, 1 << 32} {
			listSame(t, "an index of none", impl.PathOf(numbered(n), index), nil)
		}
	}
	listSame(t, "no list", impl.PathOf(nil, 0), nil)
	for what, entries := range wrongEntries() {
		for _, index := range []int64{-1, 0, 1, int64(len(entries)) - 1, int64(len(entries))} {
			listSame(t, what, impl.PathOf(entries, index), nil)
		}
	}
}

// Promise 4, of paths: also nothing else is included by them.
func TestEachEntryIsIncluded(t *testing.T) {
	for n := 1; n <= impl.MaxLeaves; n++ {
		entries := numbered(n)
		root, size := impl.TreeHash(entries), int64(n)
		for i, entry := range entries {
			path, leaf := impl.PathOf(entries, int64(i)), impl.LeafHash(entry)
			boolSame(t, "its path", impl.Included(leaf, int64(i), size, path, root), true)
			for other := int64(-1); other <= size; other++ {
				boolSame(t, "another index", impl.Included(leaf, other, size, path, root), other == int64(i))
			}
			boolSame(t, "another leaf", impl.Included(impl.LeafHash("other"), int64(i), size, path, root), false)
			boolSame(t, "the entry as it is", impl.Included(entry, int64(i), size, path, root), false)
		}
	}
}

// Entries of any length, also alike ones.
func TestAnyEntriesAreIncluded(t *testing.T) {
	r := rand.New(rand.NewSource(seed))
	for round := 0; round < 100; round++ {
		entries := make([]string, 1+r.Intn(impl.MaxLeaves))
		for i := range entries {
			entries[i] = randomText(r, r.Intn(3)*r.Intn(impl.MaxEntry/2+1))
		}
		root, i := impl.TreeHash(entries), r.Intn(len(entries))
		path := impl.PathOf(entries, int64(i))
		boolSame(t, "its path", impl.Included(impl.LeafHash(entries[i]), int64(i), int64(len(entries)), path, root), true)
	}
}

func TestIncludedRefusesWrongPaths(t *testing.T) {
	r := rand.New(rand.NewSource(seed))
	for _, n := range []int{1, 2, 3, 4, 5, 7, 8, 9, 31, 33, 63, 64} {
		entries := numbered(n)
		root, size := impl.TreeHash(entries), int64(n)
		for i, entry := range entries {
			path, leaf, at := impl.PathOf(entries, int64(i)), impl.LeafHash(entry), int64(i)
			included := func(what string, path []string) {
				t.Helper()
				boolSame(t, what, impl.Included(leaf, at, size, path, root), false)
			}
			for p := range path {
				included("one turned", with(path, p, turned(path[p], r.Intn(256))))
				included("one too short", with(path, p, path[p][:31]))
				included("one too long", with(path, p, path[p]+"\x00"))
				included("one empty", with(path, p, ""))
				included("one too few", slices.Delete(slices.Clone(path), p, p+1))
				included("one twice", slices.Insert(slices.Clone(path), p, path[p]))
			}
			included("one too many behind", append(slices.Clone(path), root))
			included("one too many ahead", append([]string{leaf}, path...))
			boolSame(t, "a leaf turned", impl.Included(turned(leaf, r.Intn(256)), at, size, path, root), false)
			boolSame(t, "a root turned", impl.Included(leaf, at, size, path, turned(root, r.Intn(256))), false)
		}
	}
}

// A path that leads to root but for a length that is not 32 is refused by that length alone.
func TestIncludedRefusesOtherLengths(t *testing.T) {
	r := rand.New(rand.NewSource(seed))
	good := randomText(r, 32)
	for _, length := range []int{0, 1, 31, 33, 64, 100, impl.MaxBytes, impl.MaxBytes + 1} {
		wrong := randomText(r, length)
		boolSame(t, "leaf and root alike", impl.Included(wrong, 0, 1, nil, wrong), false)
		boolSame(t, "a leaf", impl.Included(wrong, 0, 2, []string{good}, nodeBySha(wrong, good)), false)
		boolSame(t, "in the path", impl.Included(good, 0, 2, []string{wrong}, nodeBySha(good, wrong)), false)
		boolSame(t, "a root", impl.Included(good, 0, 2, []string{good}, wrong), false)
	}
	root := nodeBySha(good, good)
	boolSame(t, "root with a byte more", impl.Included(good, 0, 2, []string{good}, root+"\x00"), false)
	boolSame(t, "root with a byte less", impl.Included(good, 0, 2, []string{good}, root[:31]), false)
}

// someSizes holds both sides of powers of two, up to the greatest number.
func someSizes(r *rand.Rand) []int64 {
	l := []int64{1, 2, 3, math.MaxInt64, math.MaxInt64 - 1}
	for _, shift := range []int{2, 3, 4, 5, 6, 7, 16, 31, 32, 33, 61, 62} {
		p := int64(1) << shift
		l = append(l, p-1, p, p+1, p+r.Int63n(p))
	}
	return l
}

// Of each size a path of each length: that which fits is told from all others.
func TestIncludedOfAnySize(t *testing.T) {
	r := rand.New(rand.NewSource(seed))
	path := randomDigests(r, 65)
	leaf := randomText(r, 32)
	for _, size := range someSizes(r) {
		for _, index := range []int64{0, size / 2, size - 1, r.Int63n(size)} {
			fitting := 0
			for length := 0; length <= 65; length++ {
				root, fits := climbByBits(leaf, index, size, path[:length])
				if !fits {
					boolSame(t, "a length that does not fit", impl.Included(leaf, index, size, path[:length], path[0]), false)
					continue
				}
				fitting++
				boolSame(t, "a length that fits", impl.Included(leaf, index, size, path[:length], root), true)
				boolSame(t, "another root", impl.Included(leaf, index, size, path[:length], turned(root, r.Intn(256))), false)
			}
			if fitting != 1 {
				t.Errorf("index %d of %d: %d lengths fit", index, size, fitting)
			}
		}
	}
}

func TestIncludedEdges(t *testing.T) {
	r := rand.New(rand.NewSource(seed))
	path, leaf := randomDigests(r, 64), randomText(r, 32)
	root, _ := climbByBits(leaf, 5, math.MaxInt64, path[:63])
	boolSame(t, "a path of 63", impl.Included(leaf, 5, math.MaxInt64, path[:63], root), true)
	boolSame(t, "a path of 64", impl.Included(leaf, 5, math.MaxInt64, path, root), false)
	boolSame(t, "a path of 64, its own root", impl.Included(leaf, 5, math.MaxInt64, path, nodeBySha(root, path[63])), false)
	boolSame(t, "a path of 62", impl.Included(leaf, 5, math.MaxInt64, path[:62], root), false)
	boolSame(t, "the greatest index of all", impl.Included(leaf, math.MaxInt64, math.MaxInt64, path[:63], root), false)
	boolSame(t, "more than a list may have", impl.Included(leaf, 0, 1, make([]string, impl.MaxList+1), leaf), false)
	boolSame(t, "the only one", impl.Included(leaf, 0, 1, nil, leaf), true)
	boolSame(t, "the only one, an empty path", impl.Included(leaf, 0, 1, []string{}, leaf), true)
	boolSame(t, "the only one, another root", impl.Included(leaf, 0, 1, nil, path[0]), false)
	for _, c := range []struct{ index, size int64 }{
		{0, 0}, {-1, 0}, {-1, 1}, {1, 1}, {2, 1}, {0, -1}, {-1, -1}, {-2, -1}, {-1, math.MaxInt64}, {1, 0},
		{math.MinInt64, 1}, {0, math.MinInt64}, {math.MinInt64, math.MinInt64}, {math.MaxInt64, 1}, {math.MinInt64, math.MaxInt64},
	} {
		boolSame(t, "an index of none", impl.Included(leaf, c.index, c.size, nil, leaf), false)
		boolSame(t, "an index of none, a path", impl.Included(leaf, c.index, c.size, path[:1], nodeBySha(leaf, path[0])), false)
	}
}

func TestProofOfEachBeginning(t *testing.T) {
	for n := 1; n <= impl.MaxLeaves; n++ {
		entries := numbered(n)
		for old := 1; old <= n; old++ {
			listSame(t, "ProofOf", impl.ProofOf(entries, int64(old)), proofByCut(entries, old, true))
		}
	}
}

func TestProofOfEdges(t *testing.T) {
	l := numbered(7)
	listSame(t, "one of one", impl.ProofOf(l[:1], 1), nil)
	listSame(t, "all", impl.ProofOf(l, 7), nil)
	listSame(t, "one of two", impl.ProofOf(l[:2], 1), []string{leafBySha(l[1])})
	listSame(t, "four of seven, which are whole", impl.ProofOf(l, 4), []string{treeByCut(l[4:])})
	listSame(t, "three of seven, which are not", impl.ProofOf(l, 3),
		[]string{leafBySha(l[2]), leafBySha(l[3]), treeByCut(l[:2]), treeByCut(l[4:])})
	listSame(t, "six of seven", impl.ProofOf(l, 6), []string{treeByCut(l[4:6]), leafBySha(l[6]), treeByCut(l[:4])})
	for _, n := range []int{0, 1, 2, 3, 4, 5, 7, 8, 9, 63, impl.MaxLeaves} {
		for _, old := range []int64{0, -1, int64(n) + 1, int64(n) + 2, math.MinInt64, math.MaxInt64, 1<<32 + 1} {
			listSame(t, "an old of none", impl.ProofOf(numbered(n), old), nil)
		}
	}
	listSame(t, "no list", impl.ProofOf(nil, 1), nil)
	for what, entries := range wrongEntries() {
		for _, old := range []int64{0, 1, 2, int64(len(entries)) - 1, int64(len(entries))} {
			listSame(t, what, impl.ProofOf(entries, old), nil)
		}
	}
}

// Promise 5: also no other beginning is told by that proof.
func TestFirstOnesAreTheBeginning(t *testing.T) {
	for n := 1; n <= impl.MaxLeaves; n++ {
		entries := numbered(n)
		root, size := impl.TreeHash(entries), int64(n)
		for old := 1; old <= n; old++ {
			was, proof := impl.TreeHash(entries[:old]), impl.ProofOf(entries, int64(old))
			boolSame(t, "its proof", impl.Consistent(int64(old), size, proof, was, root), true)
			other := with(entries[:old], old/2, "other")
			boolSame(t, "another beginning", impl.Consistent(int64(old), size, proof, impl.TreeHash(other), root), false)
			boolSame(t, "the other way round", impl.Consistent(int64(old), size, proof, root, was), old == n)
		}
	}
}

// Entries of any length, also alike ones.
func TestFirstOfAnyEntries(t *testing.T) {
	r := rand.New(rand.NewSource(seed))
	for round := 0; round < 100; round++ {
		entries := make([]string, 1+r.Intn(impl.MaxLeaves))
		for i := range entries {
			entries[i] = randomText(r, r.Intn(3)*r.Intn(impl.MaxEntry/2+1))
		}
		old := 1 + r.Intn(len(entries))
		was, proof := impl.TreeHash(entries[:old]), impl.ProofOf(entries, int64(old))
		boolSame(t, "its proof", impl.Consistent(int64(old), int64(len(entries)), proof, was, impl.TreeHash(entries)), true)
	}
}

func TestConsistentRefusesWrongProofs(t *testing.T) {
	r := rand.New(rand.NewSource(seed))
	for _, n := range []int{1, 2, 3, 4, 5, 7, 8, 9, 31, 33, 63, 64} {
		entries := numbered(n)
		root, size := impl.TreeHash(entries), int64(n)
		for old := int64(1); old <= size; old++ {
			was, proof := impl.TreeHash(entries[:old]), impl.ProofOf(entries, old)
			consistent := func(what string, proof []string) {
				t.Helper()
				boolSame(t, what, impl.Consistent(old, size, proof, was, root), false)
			}
			for p := range proof {
				consistent("one turned", with(proof, p, turned(proof[p], r.Intn(256))))
				consistent("one too short", with(proof, p, proof[p][:31]))
				consistent("one too long", with(proof, p, proof[p]+"\x00"))
				consistent("one empty", with(proof, p, ""))
				consistent("one too few", slices.Delete(slices.Clone(proof), p, p+1))
				consistent("one twice", slices.Insert(slices.Clone(proof), p, proof[p]))
			}
			consistent("one too many behind", append(slices.Clone(proof), root))
			consistent("one too many ahead", append([]string{was}, proof...))
			boolSame(t, "was turned", impl.Consistent(old, size, proof, turned(was, r.Intn(256)), root), false)
			boolSame(t, "root turned", impl.Consistent(old, size, proof, was, turned(root, r.Intn(256))), false)
		}
	}
}

// A proof that makes was and root but for a length that is not 32 is refused by that length alone.
func TestConsistentRefusesOtherLengths(t *testing.T) {
	r := rand.New(rand.NewSource(seed))
	good := randomText(r, 32)
	for _, length := range []int{0, 1, 31, 33, 64, 100, impl.MaxBytes, impl.MaxBytes + 1} {
		wrong := randomText(r, length)
		boolSame(t, "was and root alike", impl.Consistent(3, 3, nil, wrong, wrong), false)
		boolSame(t, "was", impl.Consistent(1, 2, []string{good}, wrong, nodeBySha(wrong, good)), false)
		boolSame(t, "root", impl.Consistent(1, 2, []string{good}, good, wrong), false)
		boolSame(t, "in the proof", impl.Consistent(1, 2, []string{wrong}, good, nodeBySha(good, wrong)), false)
		was, root, _ := retraceByBits(3, 4, []string{wrong, good, good}, "")
		boolSame(t, "first in the proof", impl.Consistent(3, 4, []string{wrong, good, good}, was, root), false)
	}
	root := nodeBySha(good, good)
	boolSame(t, "root with a byte more", impl.Consistent(1, 2, []string{good}, good, root+"\x00"), false)
	boolSame(t, "root with a byte less", impl.Consistent(1, 2, []string{good}, good, root[:31]), false)
}

// Of each size a proof of each length: that which fits is told from all others.
func TestConsistentOfAnySize(t *testing.T) {
	r := rand.New(rand.NewSource(seed))
	proof, first := randomDigests(r, 66), randomText(r, 32)
	for _, size := range someSizes(r)[1:] {
		power := int64(1) << r.Intn(bits.Len64(uint64(size-1)))
		for _, old := range []int64{1, size - size/2, size - 1, power, 1 + r.Int63n(size-1)} {
			fitting := 0
			for length := 0; length <= 66; length++ {
				was, root, fits := retraceByBits(old, size, proof[:length], first)
				if !fits {
					boolSame(t, "a length that does not fit", impl.Consistent(old, size, proof[:length], first, proof[0]), false)
					continue
				}
				fitting++
				boolSame(t, "a length that fits", impl.Consistent(old, size, proof[:length], was, root), true)
				boolSame(t, "another root", impl.Consistent(old, size, proof[:length], was, turned(root, r.Intn(256))), false)
				boolSame(t, "another was", impl.Consistent(old, size, proof[:length], turned(was, r.Intn(256)), root), false)
			}
			if fitting != 1 {
				t.Errorf("%d of %d: %d lengths fit", old, size, fitting)
			}
		}
	}
}

func TestConsistentEdges(t *testing.T) {
	r := rand.New(rand.NewSource(seed))
	proof, other := randomDigests(r, 65), randomText(r, 32)
	was, root, fits := retraceByBits(3, math.MaxInt64, proof[:64], "")
	boolSame(t, "64 are what three of the most need", fits, true)
	boolSame(t, "a proof of 64", impl.Consistent(3, math.MaxInt64, proof[:64], was, root), true)
	boolSame(t, "a proof of 65", impl.Consistent(3, math.MaxInt64, proof, was, root), false)
	boolSame(t, "a proof of 65, its own root", impl.Consistent(3, math.MaxInt64, proof, was, nodeBySha(root, proof[64])), false)
	boolSame(t, "a proof of 63", impl.Consistent(3, math.MaxInt64, proof[:63], was, root), false)
	boolSame(t, "more than a list may have", impl.Consistent(1, 1, make([]string, impl.MaxList+1), was, was), false)
	for _, size := range []int64{1, 2, 3, 4, 5, 64, math.MaxInt64} {
		boolSame(t, "alike", impl.Consistent(size, size, nil, was, was), true)
		boolSame(t, "alike, an empty proof", impl.Consistent(size, size, []string{}, was, was), true)
		boolSame(t, "alike, unlike roots", impl.Consistent(size, size, nil, was, other), false)
		boolSame(t, "alike, a proof", impl.Consistent(size, size, []string{was}, was, was), false)
		boolSame(t, "alike, a proof of another", impl.Consistent(size, size, []string{other}, was, nodeBySha(was, other)), false)
		boolSame(t, "old 0", impl.Consistent(0, size, nil, shaOf(""), root), false)
		boolSame(t, "old 0, a proof", impl.Consistent(0, size, []string{root}, shaOf(""), root), false)
		boolSame(t, "old below 0", impl.Consistent(-1, size, nil, was, was), false)
		boolSame(t, "less than one", impl.Consistent(size, size-1, nil, was, was), false)
	}
	for _, c := range []struct{ old, size int64 }{
		{0, 0}, {-1, -1}, {1, 0}, {2, 1}, {math.MinInt64, math.MinInt64}, {math.MinInt64, 1}, {1, math.MinInt64},
		{math.MinInt64, math.MaxInt64}, {math.MaxInt64, 1},
	} {
		boolSame(t, "an old of none", impl.Consistent(c.old, c.size, nil, was, was), false)
		boolSame(t, "an old of none, a proof", impl.Consistent(c.old, c.size, []string{other}, was, nodeBySha(was, other)), false)
	}
}

// nodesByCut are the trees that a Range of these entries has.
func nodesByCut(entries []string) []string {
	var l []string
	for bit := 20; bit >= 0; bit-- {
		if n := 1 << bit; len(entries)&n != 0 {
			l = append(l, treeByCut(entries[:n]))
			entries = entries[n:]
		}
	}
	return l
}

// Promise 4, of ranges: up to MaxLeaves entries they come to what TreeHash tells, and go on so.
func TestRangeComesToTheTree(t *testing.T) {
	var r impl.Range
	entries := numbered(200)
	for n := 0; n <= len(entries); n++ {
		rangeSame(t, "Range", r, impl.Range{Size: int64(n), Nodes: nodesByCut(entries[:n])})
		bytesSame(t, "RangeRoot", impl.RangeRoot(r), treeByCut(entries[:n]))
		if n <= impl.MaxLeaves {
			bytesSame(t, "RangeRoot and TreeHash", impl.RangeRoot(r), impl.TreeHash(entries[:n]))
		}
		if n < len(entries) {
			r = impl.RangeAdd(r, entries[n])
		}
	}
}

func TestRangeOfNothing(t *testing.T) {
	bytesSame(t, "no Nodes", impl.RangeRoot(impl.Range{}), shaOf(""))
	bytesSame(t, "empty Nodes", impl.RangeRoot(impl.Range{Nodes: []string{}}), shaOf(""))
	rangeSame(t, "one more", impl.RangeAdd(impl.Range{Nodes: []string{}}, ""), impl.Range{Size: 1, Nodes: []string{leafBySha("")}})
}

// rangeOf is a right Range of any nodes.
func rangeOf(r *rand.Rand, size int64) impl.Range {
	return impl.Range{Size: size, Nodes: randomDigests(r, bits.OnesCount64(uint64(size)))}
}

// addedByHand puts the leaf to as many of the last nodes as there are lowest bits 1 in Size.
func addedByHand(r impl.Range, text string) impl.Range {
	node, nodes := leafBySha(text), r.Nodes
	for size := r.Size; size&1 == 1; size >>= 1 {
		node = nodeBySha(nodes[len(nodes)-1], node)
		nodes = nodes[:len(nodes)-1]
	}
	return impl.Range{Size: r.Size + 1, Nodes: append(slices.Clone(nodes), node)}
}

func rootByHand(r impl.Range) string {
	root := r.Nodes[len(r.Nodes)-1]
	for i := len(r.Nodes) - 2; i >= 0; i-- {
		root = nodeBySha(r.Nodes[i], root)
	}
	return root
}

func TestRangesOfGreatSizes(t *testing.T) {
	random := rand.New(rand.NewSource(seed))
	sizes := []int64{1, 2, 3, 63, 64, 65, 1023, 1024, 1 << 19, 1<<19 - 1, 1<<19 + 1, 999998, greatestRange - 1}
	for i := 0; i < 100; i++ {
		sizes = append(sizes, 1+random.Int63n(greatestRange-1))
	}
	for _, size := range sizes {
		r := rangeOf(random, size)
		text := randomText(random, random.Intn(impl.MaxEntry+1))
		bytesSame(t, "RangeRoot", impl.RangeRoot(r), rootByHand(r))
		more := impl.RangeAdd(r, text)
		rangeSame(t, "RangeAdd", more, addedByHand(r, text))
		bytesSame(t, "RangeRoot of one more", impl.RangeRoot(more), rootByHand(more))
	}
}

func TestRangeOfTheGreatestSize(t *testing.T) {
	random := rand.New(rand.NewSource(seed))
	last := rangeOf(random, greatestRange-1)
	full := impl.RangeAdd(last, "e")
	rangeSame(t, "one below", full, addedByHand(last, "e"))
	if full.Size != greatestRange || len(full.Nodes) != 7 {
		t.Errorf("the greatest Range: got Size %d and %d Nodes", full.Size, len(full.Nodes))
	}
	bytesSame(t, "its root", impl.RangeRoot(full), rootByHand(full))
	rangeSame(t, "no more goes in", impl.RangeAdd(full, "e"), full)
}

func TestRangeAddOfTexts(t *testing.T) {
	random := rand.New(rand.NewSource(seed))
	for _, size := range []int64{0, 1, 6, 7, 8, greatestRange - 1, greatestRange} {
		r := rangeOf(random, size)
		for _, length := range []int{impl.MaxEntry + 1, 1000, impl.MaxBytes} {
			rangeSame(t, "a text too long", impl.RangeAdd(r, strings.Repeat("x", length)), r)
		}
		rangeSame(t, "a text that no call takes", impl.RangeAdd(r, strings.Repeat("x", impl.MaxBytes+1)), impl.Range{})
		if size < greatestRange {
			longest := strings.Repeat("x", impl.MaxEntry)
			rangeSame(t, "the longest text", impl.RangeAdd(r, longest), addedByHand(r, longest))
		}
	}
}

// wrongRanges are such that nothing can be added to them, and that have no root.
func wrongRanges() []impl.Range {
	random := rand.New(rand.NewSource(seed))
	l := []impl.Range{
		{Nodes: randomDigests(random, 1)},
		{Size: 1},
		{Size: 3, Nodes: randomDigests(random, impl.MaxList+1)},
		{Size: math.MaxInt64, Nodes: randomDigests(random, 63)},
		{Size: math.MinInt64, Nodes: randomDigests(random, 1)},
		{Size: math.MinInt64},
		{Size: -1, Nodes: randomDigests(random, 64)},
		{Size: -1},
	}
	for _, size := range []int64{greatestRange + 1, greatestRange + 64, 1 << 20, 1 << 32, 1<<32 + 1} {
		l = append(l, rangeOf(random, size))
	}
	for _, size := range []int64{1, 2, 3, 7, 8, 100, greatestRange - 1, greatestRange} {
		good := rangeOf(random, size)
		many := len(good.Nodes)
		l = append(l, impl.Range{Size: size, Nodes: good.Nodes[:many-1]})
		l = append(l, impl.Range{Size: size, Nodes: append(slices.Clone(good.Nodes), randomText(random, 32))})
		for _, wrong := range []string{"", good.Nodes[0][:31], good.Nodes[0] + "\x00", strings.Repeat("x", impl.MaxBytes+1)} {
			l = append(l, impl.Range{Size: size, Nodes: with(good.Nodes, 0, wrong)})
			l = append(l, impl.Range{Size: size, Nodes: with(good.Nodes, many-1, wrong)})
		}
	}
	return l
}

func TestWrongRanges(t *testing.T) {
	for i, r := range wrongRanges() {
		what := "wrong Range " + strconv.Itoa(i)
		bytesSame(t, what, impl.RangeRoot(r), "")
		for _, text := range []string{"", "e", strings.Repeat("x", impl.MaxEntry+1)} {
			rangeSame(t, what, impl.RangeAdd(r, text), r)
		}
		rangeSame(t, what, impl.RangeAdd(r, strings.Repeat("x", impl.MaxBytes+1)), impl.Range{})
	}
}

// An answer is new memory, and room behind a list that is handed in is not written to either.
func TestRangeAddSharesNothing(t *testing.T) {
	random := rand.New(rand.NewSource(seed))
	for _, size := range []int64{0, 1, 2, 3, 7, 8, 12, greatestRange} {
		for _, text := range []string{"e", strings.Repeat("x", impl.MaxEntry+1)} {
			nodes := randomDigests(random, bits.OnesCount64(uint64(size))+3)
			was := slices.Clone(nodes)
			r := impl.Range{Size: size, Nodes: nodes[:len(nodes)-3]}
			more := impl.RangeAdd(r, text)
			for i := range more.Nodes {
				more.Nodes[i] = "other"
			}
			_ = append(more.Nodes, "other")
			listSame(t, "what was handed in", nodes, was)
		}
	}
	wrong := impl.Range{Size: 1, Nodes: randomDigests(random, 3)}
	was := slices.Clone(wrong.Nodes)
	impl.RangeAdd(wrong, "e").Nodes[1] = "other"
	listSame(t, "a wrong one", wrong.Nodes, was)
}

// Nothing is kept from one call to the next, and what is handed in is not changed.
func TestTreesChangeNothing(t *testing.T) {
	entries := append(numbered(33), "room", "behind")
	was := slices.Clone(entries)
	l := entries[:33]
	for i := int64(0); i < 33; i++ {
		path, proof := impl.PathOf(l, i), impl.ProofOf(l, i+1)
		again, proofAgain := slices.Clone(path), slices.Clone(proof)
		root, leaf := impl.TreeHash(l), impl.LeafHash(l[i])
		boolSame(t, "included", impl.Included(leaf, i, 33, path, root), true)
		boolSame(t, "consistent", impl.Consistent(i+1, 33, proof, impl.TreeHash(l[:i+1]), root), true)
		listSame(t, "the path", path, again)
		listSame(t, "the proof", proof, proofAgain)
		for at := range path {
			path[at] = "other"
		}
		for at := range proof {
			proof[at] = "other"
		}
		listSame(t, "the path again", impl.PathOf(l, i), again)
		listSame(t, "the proof again", impl.ProofOf(l, i+1), proofAgain)
	}
	listSame(t, "the entries", entries, was)
}
