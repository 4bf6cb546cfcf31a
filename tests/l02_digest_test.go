package tests

import (
	"crypto/hmac"
	"crypto/sha256"
	"encoding/hex"
	"math"
	"math/rand"
	"strings"
	"testing"

	"loop.example/g00390/impl"
)

const saltText = "salt"

// shaOf and hmacOf are those of Go's own library: what the program answers is held against them.
func shaOf(text string) string {
	sum := sha256.Sum256([]byte(text))
	return string(sum[:])
}

func hmacOf(key string, text string) string {
	h := hmac.New(sha256.New, []byte(key))
	h.Write([]byte(text))
	return string(h.Sum(nil))
}

func hexSame(t *testing.T, what string, got string, want string) {
	t.Helper()
	if hex.EncodeToString([]byte(got)) != want {
		t.Errorf("%s: got %x, want %s", what, got, want)
	}
}

func bytesSame(t *testing.T, what string, got string, want string) {
	t.Helper()
	if got != want {
		t.Errorf("%s: got %x, want %x", what, got, want)
	}
}

func TestKnownDigests(t *testing.T) {
	cases := []struct {
		text string
		want string
	}{
		{"", "e3b0c44298fc1c149afbf4c8996fb92427ae41e4649b934ca495991b7852b855"},
		{"abc", "ba7816bf8f01cfea414140de5dae2223b00361a396177a9cb410ff61f20015ad"},
		{"abcdbcdecdefdefgefghfghighijhijkijkljklmklmnlmnomnopnopq",
			"248d6a61d20638b8e5c026930c3e6039a33ce45964ff2167f6ecedd419db06c1"},
		{"abcdefghbcdefghicdefghijdefghijkefghijklfghijklmghijklmnhijklmnoijklmnopjklmnopqklmnopqrlmnopqrsmnopqrstnopqrstu",
			"cf5b16a778af8380036ce59e7b0492370b249b11e8f07a51afac45037afee9d1"},
	}
	for _, c := range cases {
		hexSame(t, c.text, impl.Digest(c.text), c.want)
	}
}

// Each length about the places where one block more is needed, 55, 56, 63, 64, 119 and 120 among them.
func TestDigestOfEachLength(t *testing.T) {
	r := rand.New(rand.NewSource(seed))
	for length := 0; length <= 260; length++ {
		noughts, full := strings.Repeat("\x00", length), strings.Repeat("\xff", length)
		for _, text := range []string{randomText(r, length), noughts, full} {
			bytesSame(t, "Digest", impl.Digest(text), shaOf(text))
		}
	}
}

func TestDigestOfLongTexts(t *testing.T) {
	r := rand.New(rand.NewSource(seed))
	for _, length := range []int{1000, 8191, 8192, impl.MaxBytes - 1, impl.MaxBytes} {
		text := randomText(r, length)
		bytesSame(t, "Digest", impl.Digest(text), shaOf(text))
	}
	for _, length := range []int{impl.MaxBytes + 1, impl.MaxBytes + 64, 2 * impl.MaxBytes} {
		bytesSame(t, "a text too long", impl.Digest(strings.Repeat("x", length)), "")
	}
}

func TestKnownMacs(t *testing.T) {
	cases := []struct {
		what string
		key  string
		text string
		want string
	}{
		{"nothing at all", "", "", "b613679a0814d9ec772f95d778c35fc5ff1697c493715653c6c712144292c5ad"},
		{"a key of 20 bytes", strings.Repeat("\x0b", 20), "Hi There",
			"b0344c61d8db38535ca8afceaf0bf12b881dc200c9833da726e9376c2e32cff7"},
		{"a short key", "Jefe", "what do ya want for nothing?",
			"5bdcc146bf60754e6a042426089575c75a003f089d2739839dec58b964ec3843"},
		{"a text of 50 bytes", strings.Repeat("\xaa", 20), strings.Repeat("\xdd", 50),
			"773ea91e36800e46854db8ebd09181a72959098b3ef8c122d9635514ced565fe"},
		{"a key of 131 bytes", strings.Repeat("\xaa", 131), "Test Using Larger Than Block-Size Key - Hash Key First",
			"60e431591ee0b67f0d8a26aacbf5b77f8e0bc6213728c5140546040f0ee37f54"},
		{"a key of 131 bytes, a longer text", strings.Repeat("\xaa", 131),
			"This is a test using a larger than block-size key and a larger than block-size data. " +
				"The key needs to be hashed before being used by the HMAC algorithm.",
			"9b09ffa71b942fcb27635fbcd5b0e944bfdc63644f0713938a7f51535c3a35e2"},
	}
	for _, c := range cases {
		hexSame(t, c.what, impl.Mac(c.key, c.text), c.want)
	}
}

// keyLengths holds both sides of a block, and the longest key.
func keyLengths() []int {
	return []int{0, 1, 31, 32, 33, 63, 64, 65, 66, 127, 128, 129, 1000, impl.MaxBytes - 1, impl.MaxBytes}
}

func TestMacOfEachLength(t *testing.T) {
	r := rand.New(rand.NewSource(seed))
	for _, keyLength := range keyLengths() {
		key := randomText(r, keyLength)
		for _, length := range []int{0, 1, 32, 54, 55, 56, 63, 64, 65, 119, 120, 1000} {
			text := randomText(r, length)
			bytesSame(t, "Mac", impl.Mac(key, text), hmacOf(key, text))
		}
	}
}

// The inner digest is of 64 bytes more than the text has: these must not make it too long.
func TestMacOfTheLongestTexts(t *testing.T) {
	r := rand.New(rand.NewSource(seed))
	for _, length := range []int{impl.MaxBytes - 65, impl.MaxBytes - 64, impl.MaxBytes - 63, impl.MaxBytes - 1, impl.MaxBytes} {
		text := randomText(r, length)
		for _, keyLength := range []int{0, 64, 65, impl.MaxBytes} {
			key := randomText(r, keyLength)
			bytesSame(t, "Mac", impl.Mac(key, text), hmacOf(key, text))
		}
	}
}

func TestMacRefuses(t *testing.T) {
	long, longest := strings.Repeat("x", impl.MaxBytes+1), strings.Repeat("x", impl.MaxBytes)
	bytesSame(t, "a key too long", impl.Mac(long, "text"), "")
	bytesSame(t, "a key too long, and nothing", impl.Mac(long, ""), "")
	bytesSame(t, "a key too long, the longest text", impl.Mac(long, longest), "")
	bytesSame(t, "a text too long", impl.Mac("key", long), "")
	bytesSame(t, "a text too long, no key", impl.Mac("", long), "")
	bytesSame(t, "a text too long, the longest key", impl.Mac(longest, long), "")
	bytesSame(t, "both too long", impl.Mac(long, long), "")
}

// macByDigests is chapter 3's sentence on Mac, made of Digest alone.
func macByDigests(key string, text string) string {
	if len(key) > 64 {
		key = impl.Digest(key)
	}
	var inner, outer [64]byte
	copy(inner[:], key)
	copy(outer[:], key)
	for i := range inner {
		inner[i] ^= 54
		outer[i] ^= 92
	}
	return impl.Digest(string(outer[:]) + impl.Digest(string(inner[:])+text))
}

// Promise 3, of macs.
func TestMacIsWhatDigestsMake(t *testing.T) {
	r := rand.New(rand.NewSource(seed))
	for i := 0; i < 500; i++ {
		key, text := randomText(r, r.Intn(140)), randomText(r, r.Intn(300))
		bytesSame(t, "Mac", impl.Mac(key, text), macByDigests(key, text))
	}
	// Digest still takes a text of MaxBytes less 64 bytes with a block ahead of it.
	text := randomText(r, impl.MaxBytes-64)
	for _, keyLength := range keyLengths() {
		key := randomText(r, keyLength)
		bytesSame(t, "Mac", impl.Mac(key, text), macByDigests(key, text))
	}
}

// A key is filled up with bytes 0, and one of more than a block stands for its digest.
func TestMacOfKeysThatAreAlike(t *testing.T) {
	block := strings.Repeat("k", 64)
	bytesSame(t, "filled up", impl.Mac("key", "text"), impl.Mac("key"+strings.Repeat("\x00", 61), "text"))
	bytesSame(t, "by its digest", impl.Mac(block+"k", "text"), impl.Mac(impl.Digest(block+"k"), "text"))
	if impl.Mac(block, "text") == impl.Mac(impl.Digest(block), "text") {
		t.Error("a key of 64 bytes is taken as it is")
	}
}

// Promise 3, of passes.
func TestStretchedOnceMore(t *testing.T) {
	r := rand.New(rand.NewSource(seed))
	passes := []string{"", "p", "\x00", saltText}
	for _, length := range []int{63, 64, 65, 200} {
		passes = append(passes, randomText(r, length))
	}
	for _, pass := range passes {
		want := saltText
		for rounds := int64(1); rounds <= 100; rounds++ {
			want = hmacOf(pass, want)
			bytesSame(t, "Stretch", impl.Stretch(pass, rounds), want)
			if rounds > 1 {
				bytesSame(t, "once more", impl.Stretch(pass, rounds), impl.Mac(pass, impl.Stretch(pass, rounds-1)))
			}
		}
	}
}

func TestStretchEdges(t *testing.T) {
	longest := strings.Repeat("x", impl.MaxBytes)
	bytesSame(t, "one round", impl.Stretch("p", 1), impl.Mac("p", saltText))
	bytesSame(t, "two rounds", impl.Stretch("p", 2), impl.Mac("p", impl.Mac("p", saltText)))
	bytesSame(t, "the longest pass", impl.Stretch(longest, 2), hmacOf(longest, hmacOf(longest, saltText)))
	if got := len(impl.Stretch("p", 100)); got != 32 {
		t.Errorf("a hundred rounds: got %d bytes", got)
	}
}

func TestStretchRefuses(t *testing.T) {
	for _, rounds := range []int64{0, -1, -100, 101, 102, 1000, math.MaxInt32 + 2, math.MaxInt64, math.MinInt64, math.MinInt64 + 1} {
		bytesSame(t, "rounds that are not 1 to 100", impl.Stretch("p", rounds), "")
	}
	long := strings.Repeat("x", impl.MaxBytes+1)
	for _, rounds := range []int64{0, 1, 100, 101} {
		bytesSame(t, "a pass too long", impl.Stretch(long, rounds), "")
	}
}

// Nothing is kept from one call to the next.
func TestDigestsAnswerAlike(t *testing.T) {
	r := rand.New(rand.NewSource(seed))
	for i := 0; i < 100; i++ {
		key, text := randomText(r, r.Intn(100)), randomText(r, r.Intn(200))
		digest, mac, stretched := impl.Digest(text), impl.Mac(key, text), impl.Stretch(key, 3)
		impl.Digest(randomText(r, r.Intn(200)))
		impl.Mac(randomText(r, r.Intn(100)), text)
		bytesSame(t, "Digest again", impl.Digest(text), digest)
		bytesSame(t, "Mac again", impl.Mac(key, text), mac)
		bytesSame(t, "Stretch again", impl.Stretch(key, 3), stretched)
	}
}
