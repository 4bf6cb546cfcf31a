package tests

import (
	"math"
	"math/rand"
	"slices"
	"strconv"
	"strings"
	"testing"

	"loop.example/g00390/impl"
)

// What the program answers is held against keys made with Go's own SHA-256 and HMAC.

func stepsBySha(text string, steps int) string {
	for i := 0; i < steps; i++ {
		text = shaOf(text)
	}
	return text
}

// chainBySha is the chain's text behind so many steps; the numbers 2i and 2j are those that PutNum lays.
func chainBySha(seed string, key int, number int, steps int) string {
	return stepsBySha(hmacOf(seed, string([]byte{byte(2 * key), byte(2 * number)})), steps)
}

func publicsBySha(seed string) []string {
	var publics []string
	for key := 0; key < 4; key++ {
		all := ""
		for number := 0; number < 6; number++ {
			all += chainBySha(seed, key, number, 15)
		}
		publics = append(publics, shaOf(all))
	}
	return publics
}

func keyRootBySha(seed string) string {
	return treeByCut(publicsBySha(seed))
}

func digitsBySha(text string) []int {
	digest := shaOf(text)
	d := []int{int(digest[0] >> 4), int(digest[0] & 15), int(digest[1] >> 4), int(digest[1] & 15)}
	short := 60
	for _, digit := range d {
		short -= digit
	}
	return append(d, short/16, short%16)
}

func signBySha(seed string, key int, text string) impl.Sig {
	s := impl.Sig{Key: int64(key), Path: pathByCut(publicsBySha(seed), key)}
	for number, digit := range digitsBySha(text) {
		s.Ends = append(s.Ends, chainBySha(seed, key, number, digit))
	}
	return s
}

func sigSame(t *testing.T, what string, got impl.Sig, want impl.Sig) {
	t.Helper()
	if got.Key != want.Key || !slices.Equal(got.Ends, want.Ends) || !slices.Equal(got.Path, want.Path) {
		t.Errorf("%s: got %d, %x and %x, want %d, %x and %x", what,
			got.Key, got.Ends, got.Path, want.Key, want.Ends, want.Path)
	}
}

// sigCopy shares nothing with s: a test may change one and hold it against the other.
func sigCopy(s impl.Sig) impl.Sig {
	return impl.Sig{Key: s.Key, Ends: slices.Clone(s.Ends), Path: slices.Clone(s.Path)}
}

func textsOfHex(t *testing.T, l ...string) []string {
	t.Helper()
	var texts []string
	for _, one := range l {
		var row []byte
		for at := 0; at < len(one); at += 2 {
			b, err := strconv.ParseUint(one[at:at+2], 16, 8)
			if err != nil {
				t.Fatal(err)
			}
			row = append(row, byte(b))
		}
		texts = append(texts, string(row))
	}
	return texts
}

// textWith is a text whose digits are asked for by a condition, and that is not the one given.
func textWith(t *testing.T, not string, asked func(d []int) bool) string {
	t.Helper()
	for i := 0; i < 2000000; i++ {
		text := "text " + strconv.Itoa(i)
		if text != not && asked(digitsBySha(text)) {
			return text
		}
	}
	t.Fatal("no text of such digits")
	return ""
}

// wrongSeeds are texts that are no seed: none, and those of 65 bytes and more.
func wrongSeeds() []string {
	l := []string{""}
	for _, length := range []int{65, 66, 100, 128, impl.MaxBytes, impl.MaxBytes + 1} {
		l = append(l, strings.Repeat("s", length))
	}
	return l
}

func wrongKeys() []int64 {
	return []int64{-1, -2, -4, 4, 5, 8, 1 << 32, 1<<32 + 1, math.MinInt64, math.MaxInt64}
}

func TestConstantsOfSignatures(t *testing.T) {
	if impl.MaxKeys != 4 {
		t.Errorf("got MaxKeys %d", impl.MaxKeys)
	}
}

func TestKnownKeyRoots(t *testing.T) {
	hexSame(t, "seed", impl.KeyRoot("seed"), "3fc49e280695f8bcfc14cbcd4d4c57857b03cd36f13603337c715814d6046f34")
	hexSame(t, "64 bytes", impl.KeyRoot(strings.Repeat("s", 64)), "136e09648b3a9555a38e69cea9ed90419972088bf5fefe3fe516e1e2076e1c5f")
}

func TestKnownSignatures(t *testing.T) {
	sigSame(t, "text by the key 2", impl.Sign("seed", 2, "text"), impl.Sig{
		Key: 2,
		Ends: textsOfHex(t,
			"bb7c2815d7f3d88e851120394a89b4ee25d7fd9791abcf31207b281345531d93",
			"7419736e7546e06f6e8827b55a1fc85323b421e7b689b25aad3274806f7694b1",
			"9cceef10ac3021416e1a77401debf931dfe096f72048d93bed4cbfe18004a5dd",
			"fb95aa2e1a09783896e5a56808f209b9c386917050fd3a3dbd8bad33e07389d8",
			"3574ac6c140fb7948dfb34a040341fc7f73e804a74c9fe961454baa525f0a3bb",
			"65c6728fb1b1e3417a594671e186537413a873bd65410225371b2d2820555a6c"),
		Path: textsOfHex(t,
			"1ebb3032aa9ab5375f4cad49da377790c3772d93b68e6e41fb06137579852711",
			"fcfc3e39f0b5deca259dffc01ac54f5a0d958ca334ca015878d9385d780f86d8"),
	})
	sigSame(t, "nothing by the key 1", impl.Sign("seed", 1, ""), impl.Sig{
		Key: 1,
		Ends: textsOfHex(t,
			"528172bb5794afc7426312f4dfe8f05141e3d1670b54fc0a94717560bba28d50",
			"0a14ba86856ee07b371f9908acd4fe36c860a5655b214775beff14bf4699c309",
			"6bebf00bca9f9ce653d9468fb42e7e99ec56a9aca8510baa5da236dd001da8c9",
			"ee679a7b45ab384f4df68d3f7bcbba469807bbd489a2e6d1a2d2e845dfad1132",
			"4b39dd43d0b175593d018f0d7ab869c7f1daf5c98d4d84cd9802b0262b0345e9",
			"d33dbcf2b9c7b4884ada38f5690af17d7a211cea3e41e2159ea08bdb562b8172"),
		Path: textsOfHex(t,
			"39db1d1f723ce2334e4c0a2a248ce6af7b97fb1605636dc0e932747c4ee7720f",
			"4321a63f589c07ad02331cbfd1739e2d3d0d631433f627c02d5c27b3e9bc1ef4"),
	})
}

func TestKeyRootOfEachLength(t *testing.T) {
	r := rand.New(rand.NewSource(seed))
	for length := 1; length <= 64; length++ {
		text := randomText(r, length)
		bytesSame(t, "KeyRoot", impl.KeyRoot(text), keyRootBySha(text))
	}
	bytesSame(t, "a byte 0", impl.KeyRoot("\x00"), keyRootBySha("\x00"))
	for _, wrong := range wrongSeeds() {
		bytesSame(t, "no seed", impl.KeyRoot(wrong), "")
	}
}

func TestSignOfEachKey(t *testing.T) {
	r := rand.New(rand.NewSource(seed))
	for _, length := range []int{1, 2, 31, 32, 33, 63, 64} {
		text := randomText(r, length)
		for key := 0; key < 4; key++ {
			for _, signed := range []string{"", "text", randomText(r, 1+r.Intn(300))} {
				sigSame(t, "Sign", impl.Sign(text, int64(key), signed), signBySha(text, key, signed))
			}
		}
	}
}

// Digits at both ends: chains that no step, and that all steps are done to.
func TestSignOfDigitsAtTheEnds(t *testing.T) {
	asked := map[string]func(d []int) bool{
		"a first 0":             func(d []int) bool { return d[0] == 0 },
		"a first 15":            func(d []int) bool { return d[0] == 15 },
		"a fourth 0":            func(d []int) bool { return d[3] == 0 },
		"a fourth 15":           func(d []int) bool { return d[3] == 15 },
		"a fifth 0":             func(d []int) bool { return d[4] == 0 },
		"a fifth 3":             func(d []int) bool { return d[4] == 3 },
		"a last 0":              func(d []int) bool { return d[5] == 0 },
		"a last 15":             func(d []int) bool { return d[5] == 15 },
		"the greatest sum":      func(d []int) bool { return d[0]+d[1]+d[2]+d[3] == 60 },
		"the least sum":         func(d []int) bool { return d[0]+d[1]+d[2]+d[3] == 0 },
		"four digits unlike":    func(d []int) bool { return d[0] < d[1] && d[1] < d[2] && d[2] < d[3] },
		"four digits that fall": func(d []int) bool { return d[0] > d[1] && d[1] > d[2] && d[2] > d[3] },
	}
	for what, condition := range asked {
		text := textWith(t, "", condition)
		s := impl.Sign("seed", 3, text)
		sigSame(t, what, s, signBySha("seed", 3, text))
		boolSame(t, what, impl.Verify(keyRootBySha("seed"), text, s), true)
	}
}

func TestSignOfTheLongestTexts(t *testing.T) {
	longest := strings.Repeat("x", impl.MaxBytes)
	s := impl.Sign("seed", 0, longest)
	sigSame(t, "MaxBytes", s, signBySha("seed", 0, longest))
	root := keyRootBySha("seed")
	boolSame(t, "MaxBytes", impl.Verify(root, longest, s), true)
	sigSame(t, "one more", impl.Sign("seed", 0, longest+"x"), impl.Sig{})
	boolSame(t, "one more", impl.Verify(root, longest+"x", signBySha("seed", 0, longest+"x")), false)
	boolSame(t, "one more, by the digits of nothing", impl.Verify(root, longest+"x", signBySha("seed", 0, "")), false)
}

func TestSignRefuses(t *testing.T) {
	for _, wrong := range wrongSeeds() {
		for key := int64(-1); key <= 4; key++ {
			sigSame(t, "no seed", impl.Sign(wrong, key, "text"), impl.Sig{})
		}
	}
	for _, key := range wrongKeys() {
		sigSame(t, "no key", impl.Sign("seed", key, "text"), impl.Sig{})
		sigSame(t, "neither", impl.Sign("", key, strings.Repeat("x", impl.MaxBytes+1)), impl.Sig{})
	}
}

func TestSigRight(t *testing.T) {
	r := rand.New(rand.NewSource(seed))
	for key := int64(0); key < 4; key++ {
		boolSame(t, "any digests", impl.SigRight(impl.Sig{Key: key, Ends: randomDigests(r, 6), Path: randomDigests(r, 2)}), true)
		boolSame(t, "one signed", impl.SigRight(impl.Sign("seed", key, "text")), true)
	}
	boolSame(t, "the zero one", impl.SigRight(impl.Sig{}), false)
	for _, key := range wrongKeys() {
		boolSame(t, "no key", impl.SigRight(impl.Sig{Key: key, Ends: randomDigests(r, 6), Path: randomDigests(r, 2)}), false)
	}
	for ends := 0; ends <= 12; ends++ {
		for path := 0; path <= 6; path++ {
			s := impl.Sig{Key: 1, Ends: randomDigests(r, ends), Path: randomDigests(r, path)}
			boolSame(t, strconv.Itoa(ends)+" Ends and "+strconv.Itoa(path)+" in Path", impl.SigRight(s), ends == 6 && path == 2)
		}
	}
	boolSame(t, "far too many", impl.SigRight(impl.Sig{Ends: randomDigests(r, impl.MaxList+1), Path: randomDigests(r, impl.MaxList+1)}), false)
}

// wrongSigs are of s, but not right: in lengths of lists, in lengths of digests, in the key.
func wrongSigs(s impl.Sig) map[string]impl.Sig {
	l := map[string]impl.Sig{
		"the zero one":        {},
		"no Ends":             {Key: s.Key, Path: s.Path},
		"no Path":             {Key: s.Key, Ends: s.Ends},
		"five Ends":           {Key: s.Key, Ends: s.Ends[:5], Path: s.Path},
		"the last five Ends":  {Key: s.Key, Ends: s.Ends[1:], Path: s.Path},
		"seven Ends":          {Key: s.Key, Ends: append(slices.Clone(s.Ends), s.Ends[5]), Path: s.Path},
		"one in Path":         {Key: s.Key, Ends: s.Ends, Path: s.Path[:1]},
		"the other one":       {Key: s.Key, Ends: s.Ends, Path: s.Path[1:]},
		"three in Path":       {Key: s.Key, Ends: s.Ends, Path: append(slices.Clone(s.Path), s.Path[1])},
		"two lists swapped":   {Key: s.Key, Ends: s.Path, Path: s.Ends},
		"bytes moved in Ends": {Key: s.Key, Ends: with(with(s.Ends, 0, s.Ends[0]+s.Ends[1][:1]), 1, s.Ends[1][1:]), Path: s.Path},
	}
	for _, key := range wrongKeys() {
		l["the key "+strconv.FormatInt(key, 10)] = impl.Sig{Key: key, Ends: s.Ends, Path: s.Path}
	}
	for _, length := range []int{0, 1, 31, 33, 64, impl.MaxBytes, impl.MaxBytes + 1} {
		wrong := (s.Ends[0] + strings.Repeat("x", impl.MaxBytes))[:length]
		for at := range s.Ends {
			l["the End "+strconv.Itoa(at)+" of "+strconv.Itoa(length)] = impl.Sig{Key: s.Key, Ends: with(s.Ends, at, wrong), Path: s.Path}
		}
		for at := range s.Path {
			l["the Path's "+strconv.Itoa(at)+" of "+strconv.Itoa(length)] = impl.Sig{Key: s.Key, Ends: s.Ends, Path: with(s.Path, at, wrong)}
		}
	}
	return l
}

func TestWrongSigs(t *testing.T) {
	for key := 0; key < 4; key++ {
		s := signBySha("seed", key, "text")
		root := keyRootBySha("seed")
		boolSame(t, "as it was signed", impl.SigRight(s) && impl.Verify(root, "text", s), true)
		for what, wrong := range wrongSigs(s) {
			boolSame(t, what, impl.SigRight(wrong), false)
			boolSame(t, what, impl.Verify(root, "text", wrong), false)
		}
	}
}

// Promise 6.
func TestWhatIsSignedIsVerified(t *testing.T) {
	r := rand.New(rand.NewSource(seed))
	for length := 1; length <= 64; length++ {
		text := randomText(r, length)
		root := impl.KeyRoot(text)
		for key := int64(0); key < 4; key++ {
			signed := randomText(r, r.Intn(200))
			s := impl.Sign(text, key, signed)
			boolSame(t, "is right", impl.SigRight(s), true)
			boolSame(t, "is verified", impl.Verify(root, signed, s), true)
		}
	}
	root := impl.KeyRoot("seed")
	for length := 0; length <= impl.MaxBytes; length += 1 + length/3 {
		signed := randomText(r, length)
		boolSame(t, "a text of any length", impl.Verify(root, signed, impl.Sign("seed", int64(length%4), signed)), true)
	}
}

// Another text is verified by a signature just if it has the same digits.
func TestVerifyOfOtherTexts(t *testing.T) {
	s, root := impl.Sign("seed", 2, "text"), impl.KeyRoot("seed")
	own := digitsBySha("text")
	for i := 0; i < 2000; i++ {
		other := "other " + strconv.Itoa(i)
		boolSame(t, other, impl.Verify(root, other, s), slices.Equal(digitsBySha(other), own))
	}
	for _, other := range []string{"", "Text", "text ", "tex", "text\x00", shaOf("text")} {
		boolSame(t, "another text", impl.Verify(root, other, s), false)
	}
	alike := textWith(t, "text", func(d []int) bool { return slices.Equal(d, own) })
	boolSame(t, "a text of the same digits", impl.Verify(root, alike, s), true)
	last := textWith(t, "text", func(d []int) bool { return !slices.Equal(d, own) && d[4] == own[4] && d[5] == own[5] })
	boolSame(t, "a text whose last digits alone are the same", impl.Verify(root, last, s), false)
}

// Who has a signature takes its chains further, but can't take the last ones back.
func TestVerifyRefusesChainsTakenFurther(t *testing.T) {
	own := digitsBySha("text")
	greater := func(d []int) bool {
		return d[0] >= own[0] && d[1] >= own[1] && d[2] >= own[2] && d[3] >= own[3] && !slices.Equal(d, own)
	}
	text := textWith(t, "text", greater)
	s, root := impl.Sign("seed", 2, "text"), impl.KeyRoot("seed")
	for at, digit := range digitsBySha(text) {
		s.Ends[at] = stepsBySha(s.Ends[at], max(0, digit-own[at]))
	}
	boolSame(t, "taken further", impl.Verify(root, text, s), false)
	s = impl.Sign("seed", 2, "text")
	for at := range s.Ends {
		further := impl.Sig{Key: 2, Ends: with(s.Ends, at, shaOf(s.Ends[at])), Path: s.Path}
		boolSame(t, "one step further", impl.Verify(root, "text", further), false)
	}
}

func TestVerifyOfOtherKeys(t *testing.T) {
	root := impl.KeyRoot("seed")
	for key := int64(0); key < 4; key++ {
		s := impl.Sign("seed", key, "text")
		for other := int64(-1); other <= 4; other++ {
			named := impl.Sig{Key: other, Ends: s.Ends, Path: s.Path}
			boolSame(t, "another Key", impl.Verify(root, "text", named), other == key)
			if other < 0 || other > 3 {
				continue
			}
			led := impl.Sig{Key: key, Ends: s.Ends, Path: impl.Sign("seed", other, "text").Path}
			boolSame(t, "another one's Path", impl.Verify(root, "text", led), other == key)
			ended := impl.Sig{Key: key, Ends: impl.Sign("seed", other, "text").Ends, Path: s.Path}
			boolSame(t, "another one's Ends", impl.Verify(root, "text", ended), other == key)
		}
	}
}

func TestVerifyUnderOtherRoots(t *testing.T) {
	s, root := impl.Sign("seed", 1, "text"), impl.KeyRoot("seed")
	boolSame(t, "its root", impl.Verify(root, "text", s), true)
	for _, other := range []string{"x", "see", "seedx", "Seed", "seed\x01"} {
		boolSame(t, "another seed's root", impl.Verify(impl.KeyRoot(other), "text", s), false)
		boolSame(t, "another seed's Sig", impl.Verify(root, "text", impl.Sign(other, 1, "text")), false)
	}
	for bit := 0; bit < 256; bit++ {
		boolSame(t, "a bit turned", impl.Verify(turned(root, bit), "text", s), false)
	}
	for _, length := range []int{0, 1, 31, 33, 64, impl.MaxBytes, impl.MaxBytes + 1} {
		wrong := (root + strings.Repeat("x", impl.MaxBytes))[:length]
		boolSame(t, "a root of another length", impl.Verify(wrong, "text", s), false)
	}
	boolSame(t, "a public text is no root", impl.Verify(publicsBySha("seed")[1], "text", s), false)
}

// The tree is that of RFC 6962: four public texts that aren't taken for leaves first have another root.
func TestVerifyAsksForLeaves(t *testing.T) {
	publics := publicsBySha("seed")
	bare := nodeBySha(nodeBySha(publics[0], publics[1]), nodeBySha(publics[2], publics[3]))
	s := signBySha("seed", 0, "text")
	s.Path = []string{publics[1], nodeBySha(publics[2], publics[3])}
	boolSame(t, "without leaves", impl.Verify(bare, "text", s), false)
}

func TestVerifyRefusesWhatIsTurned(t *testing.T) {
	root := impl.KeyRoot("seed")
	for key := int64(0); key < 4; key++ {
		s := impl.Sign("seed", key, "text")
		for bit := 0; bit < 256; bit += 5 {
			for at := range s.Ends {
				one := impl.Sig{Key: key, Ends: with(s.Ends, at, turned(s.Ends[at], bit)), Path: s.Path}
				boolSame(t, "an End turned", impl.Verify(root, "text", one), false)
			}
			for at := range s.Path {
				one := impl.Sig{Key: key, Ends: s.Ends, Path: with(s.Path, at, turned(s.Path[at], bit))}
				boolSame(t, "the Path turned", impl.Verify(root, "text", one), false)
			}
		}
		swapped := impl.Sig{Key: key, Ends: s.Ends, Path: []string{s.Path[1], s.Path[0]}}
		boolSame(t, "the Path the other way round", impl.Verify(root, "text", swapped), false)
		ends := with(with(s.Ends, 0, s.Ends[1]), 1, s.Ends[0])
		boolSame(t, "two Ends swapped", impl.Verify(root, "text", impl.Sig{Key: key, Ends: ends, Path: s.Path}), false)
	}
}

func TestSignaturesChangeNothing(t *testing.T) {
	root := impl.KeyRoot("seed")
	s := impl.Sign("seed", 3, "text")
	// Room behind the lists would be written into by an append that takes it for its own.
	s.Ends = append(make([]string, 0, 20), s.Ends...)
	s.Path = append(make([]string, 0, 20), s.Path...)
	before := sigCopy(s)
	boolSame(t, "verified", impl.Verify(root, "text", s) && impl.SigRight(s), true)
	sigSame(t, "what was handed in", s, before)
	for _, room := range append(s.Ends[6:20], s.Path[2:20]...) {
		bytesSame(t, "the room behind the lists", room, "")
	}
	boolSame(t, "verified once more", impl.Verify(root, "text", s), true)
}

func TestSignAnswersNewLists(t *testing.T) {
	s := impl.Sign("seed", 3, "text")
	want := sigCopy(s)
	for i := range s.Ends {
		s.Ends[i] = "x"
	}
	listSame(t, "Path beside other Ends", s.Path, want.Path)
	s.Path = append(s.Path[:0], "y", "z")
	_ = append(s.Ends[:6], "v")
	sigSame(t, "signed once more", impl.Sign("seed", 3, "text"), want)
	bytesSame(t, "KeyRoot once more", impl.KeyRoot("seed"), keyRootBySha("seed"))
}
