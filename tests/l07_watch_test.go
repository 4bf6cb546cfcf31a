package tests

import (
	"math"
	"math/rand"
	"slices"
	"strconv"
	"strings"
	"testing"
	"unsafe"

	"loop.example/g00390/impl"
)

// What a watcher answers is held against one that keeps its Pool as a list, and asks Go's own SHA-256.

func headIsZero(h impl.Head) bool {
	return headEqual(h, impl.Head{})
}

func watchEqual(a impl.Watch, b impl.Watch) bool {
	return a.Log == b.Log && a.Key == b.Key && slices.Equal(a.Entries, b.Entries) && headEqual(a.Head, b.Head) &&
		slices.EqualFunc(a.Pool, b.Pool, headEqual) && a.Found == b.Found && fraudEqual(a.Fraud, b.Fraud)
}

// watchTold is short enough for a test's message: heads by their Sizes and times.
func watchTold(w impl.Watch) string {
	head := func(h impl.Head) string {
		return " " + strconv.FormatInt(h.Size, 10) + "@" + strconv.FormatInt(h.Time, 10)
	}
	row := "Log " + w.Log + ", " + strconv.Itoa(len(w.Key)) + " bytes of Key, " + strconv.Itoa(len(w.Entries)) + " Entries, "
	row += "Head" + head(w.Head) + ", Pool"
	for _, h := range w.Pool {
		row += head(h)
	}
	return row + ", Found " + strconv.FormatBool(w.Found) + head(w.Fraud.A) + head(w.Fraud.B) + " " + strconv.Itoa(len(w.Fraud.Entries))
}

func watchSame(t *testing.T, what string, got impl.Watch, want impl.Watch) {
	t.Helper()
	if !watchEqual(got, want) {
		t.Errorf("%s: got %s, want %s", what, watchTold(got), watchTold(want))
	}
}

func watchOutSame(t *testing.T, what string, got impl.WatchOut, want impl.WatchOut) {
	t.Helper()
	if got.Code != want.Code || got.Many != want.Many {
		t.Errorf("%s: got Code %d and Many %d, want %d and %d", what, got.Code, got.Many, want.Code, want.Many)
	}
	watchSame(t, what, got.Watch, want.Watch)
}

func refusedWith(t *testing.T, what string, got impl.WatchOut, code int64) {
	t.Helper()
	watchOutSame(t, what, got, impl.WatchOut{Code: code})
}

func headsSame(t *testing.T, what string, got []impl.Head, want []impl.Head) {
	t.Helper()
	watchSame(t, what, impl.Watch{Pool: got}, impl.Watch{Pool: want})
}

func numberSame(t *testing.T, what string, got int64, want int64) {
	t.Helper()
	if got != want {
		t.Errorf("%s: got %d, want %d", what, got, want)
	}
}

// watchCopy shares nothing with w: a test may change one and hold it against the other.
func watchCopy(w impl.Watch) impl.Watch {
	w.Entries, w.Head, w.Fraud = slices.Clone(w.Entries), headCopy(w.Head), fraudCopy(w.Fraud)
	w.Pool = slices.Clone(w.Pool)
	for at, h := range w.Pool {
		w.Pool[at] = headCopy(h)
	}
	return w
}

func watchRightByHand(w impl.Watch) bool {
	if !nameForm.MatchString(w.Log) || len(w.Key) != 32 || !entriesRightByHand(w.Entries) || len(w.Pool) > 5 {
		return false
	}
	heads := w.Pool
	if headIsZero(w.Head) {
		if len(w.Entries) != 0 {
			return false
		}
	} else {
		if w.Head.Root != treeByCut(w.Entries) || w.Head.Size != int64(len(w.Entries)) {
			return false
		}
		heads = append([]impl.Head{w.Head}, heads...)
	}
	for at, h := range heads {
		if !goodByHand(w.Key, h) || h.Log != w.Log || at > 0 && h.Size <= heads[at-1].Size {
			return false
		}
	}
	if len(w.Pool) > 0 && w.Pool[0].Size <= int64(len(w.Entries)) {
		return false
	}
	if !w.Found {
		return fraudEqual(w.Fraud, impl.Fraud{})
	}
	return judgeByHand(w.Key, w.Fraud) && w.Fraud.A.Log == w.Log
}

func hearByHand(w impl.Watch, h impl.Head) impl.WatchOut {
	if !watchRightByHand(w) {
		return impl.WatchOut{Code: impl.ErrForm}
	}
	if !goodByHand(w.Key, h) || h.Log != w.Log {
		return impl.WatchOut{Code: impl.ErrSum}
	}
	w = watchCopy(w)
	many := int64(len(w.Entries))
	same := slices.IndexFunc(w.Pool, func(one impl.Head) bool { return one.Size == h.Size })
	switch {
	case w.Found:
	case h.Size <= many && (headIsZero(w.Head) || h.Root == treeByCut(w.Entries[:h.Size])):
	case h.Size == many:
		w.Found, w.Fraud = true, impl.Fraud{A: w.Head, B: h}
	case h.Size < many:
		w.Found, w.Fraud = true, impl.Fraud{A: h, B: w.Head, Entries: w.Entries}
	case same >= 0 && w.Pool[same].Root != h.Root:
		w.Found, w.Fraud = true, impl.Fraud{A: w.Pool[same], B: h}
	case same < 0:
		w.Pool = append(w.Pool, h)
		slices.SortFunc(w.Pool, func(a impl.Head, b impl.Head) int { return int(a.Size - b.Size) })
		w.Pool = w.Pool[:min(5, len(w.Pool))]
	}
	return impl.WatchOut{Watch: w}
}

func fetchByHand(w impl.Watch, from int64, entries []string) impl.WatchOut {
	many := int64(len(w.Entries))
	all := append(slices.Clone(w.Entries), entries...)
	switch {
	case len(entries) > 400:
		return impl.WatchOut{Code: impl.ErrSize}
	case !watchRightByHand(w) || !entriesRightByHand(entries) || len(entries) == 0:
		return impl.WatchOut{Code: impl.ErrForm}
	case w.Found || len(w.Pool) == 0:
		return impl.WatchOut{Code: impl.ErrState}
	case from != many || int64(len(all)) != w.Pool[0].Size:
		return impl.WatchOut{Code: impl.ErrRange}
	case treeByCut(all) != w.Pool[0].Root:
		return impl.WatchOut{Code: impl.ErrSum}
	}
	w.Entries, w.Head, w.Pool = all, w.Pool[0], w.Pool[1:]
	return impl.WatchOut{Watch: w, Many: int64(len(all))}
}

func sharesByHand(w impl.Watch) []impl.Head {
	if !watchRightByHand(w) {
		return nil
	}
	if headIsZero(w.Head) {
		return w.Pool
	}
	return append([]impl.Head{w.Head}, w.Pool...)
}

func meetByHand(w impl.Watch, l []impl.Head) impl.WatchOut {
	if len(l) > 400 {
		return impl.WatchOut{Code: impl.ErrSize}
	}
	if !watchRightByHand(w) {
		return impl.WatchOut{Code: impl.ErrForm}
	}
	out := impl.WatchOut{Watch: w}
	for _, h := range l {
		if heard := hearByHand(out.Watch, h); heard.Code == impl.OK {
			out.Watch = heard.Watch
			out.Many++
		}
	}
	return out
}

// headOf is of the first so many of a row, and has these for its time, too.
func headOf(row []string, size int) impl.Head {
	return headByHand("seed", size%4, "log", row[:size], int64(size))
}

// other is a row that goes apart from the numbered one at one place.
func other(at int) []string {
	return with(numbered(impl.MaxLeaves), at, "x")
}

// watchOf has read so many numbered entries (of none it has no Head), and has yet to read others.
func watchOf(many int, pool ...int) impl.Watch {
	row := numbered(impl.MaxLeaves)
	w := impl.Watch{Log: "log", Key: keyRootBySha("seed"), Entries: row[:many]}
	if many > 0 {
		w.Head = headOf(row, many)
	}
	for _, size := range pool {
		w.Pool = append(w.Pool, headOf(row, size))
	}
	return w
}

func foundWith(w impl.Watch, f impl.Fraud) impl.Watch {
	w.Found, w.Fraud = true, f
	return w
}

func withHead(w impl.Watch, entries []string, h impl.Head) impl.Watch {
	w.Entries, w.Head = entries, h
	return w
}

func TestConstantsOfWatches(t *testing.T) {
	if impl.MaxPool != 5 {
		t.Errorf("got MaxPool %d", impl.MaxPool)
	}
}

func TestWatchNew(t *testing.T) {
	key := impl.KeyRoot("seed")
	for _, log := range rightNames() {
		w := impl.WatchNew(log, key)
		watchSame(t, "of "+log, w, impl.Watch{Log: log, Key: key})
		boolSame(t, "of "+log, impl.WatchRight(w), true)
		numberSame(t, "wants nothing", impl.Wants(w), 0)
		headsSame(t, "shares nothing", impl.Shares(w), nil)
	}
	watchSame(t, "a Key of bytes 0", impl.WatchNew("log", strings.Repeat("\x00", 32)), impl.Watch{Log: "log", Key: strings.Repeat("\x00", 32)})
	for _, log := range wrongNames() {
		watchSame(t, "of "+strconv.Itoa(len(log))+" bytes", impl.WatchNew(log, key), impl.Watch{})
		boolSame(t, "right by hand alone", impl.WatchRight(impl.Watch{Log: log, Key: key}), false)
	}
	for _, wrong := range otherLengths(key) {
		watchSame(t, "a Key of "+strconv.Itoa(len(wrong)), impl.WatchNew("log", wrong), impl.Watch{})
		boolSame(t, "right by hand alone", impl.WatchRight(impl.Watch{Log: "log", Key: wrong}), false)
	}
}

// A watch that hears, fetches, hears again and meets, step by step, with what it must be behind each.
func TestWatchGoesOn(t *testing.T) {
	row := numbered(9)
	h := func(size int) impl.Head { return impl.HeadSign("seed", int64(size%4), "log", row[:size], int64(size)) }
	want := impl.Watch{Log: "log", Key: impl.KeyRoot("seed")}
	w := impl.WatchNew("log", impl.KeyRoot("seed"))
	heard := func(what string, one impl.Head) {
		t.Helper()
		out := impl.Hear(w, one)
		watchOutSame(t, what, out, impl.WatchOut{Watch: want})
		boolSame(t, what+": right", impl.WatchRight(out.Watch), true)
		w = out.Watch
	}
	want.Pool = []impl.Head{h(5)}
	heard("five", h(5))
	want.Pool = []impl.Head{h(3), h(5)}
	heard("three", h(3))
	heard("three again", impl.HeadSign("seed", 0, "log", row[:3], 77))
	numberSame(t, "wants the least", impl.Wants(w), 3)
	headsSame(t, "shares both", impl.Shares(w), []impl.Head{h(3), h(5)})
	want.Entries, want.Head, want.Pool = row[:3], h(3), []impl.Head{h(5)}
	out := impl.Fetch(w, 0, row[:3])
	watchOutSame(t, "fetched three", out, impl.WatchOut{Watch: want, Many: 3})
	w = out.Watch
	heard("two, read already", h(2))
	want.Pool = append(want.Pool, h(9))
	heard("nine", h(9))
	headsSame(t, "shares all", impl.Shares(w), []impl.Head{h(3), h(5), h(9)})
	want.Entries, want.Head, want.Pool = row[:5], h(5), want.Pool[1:]
	out = impl.Fetch(w, 3, row[3:5])
	watchOutSame(t, "fetched five", out, impl.WatchOut{Watch: want, Many: 5})
	w = out.Watch
	bad := headOf(other(1), 4)
	met := impl.Meet(w, []impl.Head{h(4), {}, bad, h(7), headOf(other(0), 3)})
	want.Found, want.Fraud = true, impl.Fraud{A: bad, B: h(5), Entries: row[:5]}
	watchOutSame(t, "met", met, impl.WatchOut{Watch: want, Many: 4})
	boolSame(t, "right, and guilty", impl.WatchRight(met.Watch) && impl.Judge(want.Key, met.Watch.Fraud), true)
}

// Heads of each Size, of one row and of others, heard by one that has read ten entries and has none in its Pool.
func TestHearOfEachSize(t *testing.T) {
	w := watchOf(10)
	for size := 0; size <= impl.MaxLeaves; size++ {
		for _, at := range []int{63, 9, 4, 0} {
			h := headOf(other(at), size)
			want := watchOf(10)
			switch unlike := at < size; {
			case size > 10:
				want.Pool = []impl.Head{h}
			case unlike && size == 10:
				want = foundWith(want, impl.Fraud{A: w.Head, B: h})
			case unlike:
				want = foundWith(want, impl.Fraud{A: h, B: w.Head, Entries: w.Entries})
			}
			got := impl.Hear(w, h)
			watchOutSame(t, "Size "+strconv.Itoa(size)+", apart at "+strconv.Itoa(at), got, impl.WatchOut{Watch: want})
			boolSame(t, "right", impl.WatchRight(got.Watch), true)
			boolSame(t, "guilty", impl.Judge(w.Key, got.Watch.Fraud), size <= 10 && at < size)
		}
	}
}

// Nothing can be found against a watch without a Head; with one, of no entries, it can.
func TestHearOfTheSizeNone(t *testing.T) {
	empty, odd := rootedHead(0, "log", 0, shaOf("")), rootedHead(1, "log", 0, shaOf("x"))
	for _, h := range []impl.Head{empty, odd} {
		watchOutSame(t, "without a Head", impl.Hear(watchOf(0), h), impl.WatchOut{Watch: watchOf(0)})
		watchOutSame(t, "with some in the Pool", impl.Hear(watchOf(0, 2, 3), h), impl.WatchOut{Watch: watchOf(0, 2, 3)})
	}
	w := withHead(watchOf(0, 4), nil, empty)
	boolSame(t, "a Head of none is right", impl.WatchRight(w), true)
	headsSame(t, "and is shared", impl.Shares(w), []impl.Head{empty, w.Pool[0]})
	watchOutSame(t, "a like one", impl.Hear(w, rootedHead(3, "log", 0, shaOf(""))), impl.WatchOut{Watch: w})
	watchOutSame(t, "an unlike one", impl.Hear(w, odd), impl.WatchOut{Watch: foundWith(w, impl.Fraud{A: empty, B: odd})})
	fetched := withHead(watchOf(0), numbered(4), w.Pool[0])
	watchOutSame(t, "it goes on", impl.Fetch(w, 0, numbered(4)), impl.WatchOut{Watch: fetched, Many: 4})
	more := watchOf(3)
	want := foundWith(more, impl.Fraud{A: odd, B: more.Head, Entries: more.Entries})
	watchOutSame(t, "with entries", impl.Hear(more, odd), impl.WatchOut{Watch: want})
	watchOutSame(t, "with entries, a like one", impl.Hear(more, empty), impl.WatchOut{Watch: more})
}

func TestHearOfASizeInThePool(t *testing.T) {
	w := watchOf(4, 6, 9, 20, 21, 64)
	for at, known := range w.Pool {
		size := int(known.Size)
		like := headByHand("seed", 3, "log", numbered(size), 999)
		watchOutSame(t, "a like Root", impl.Hear(w, like), impl.WatchOut{Watch: w})
		watchOutSame(t, "the same one", impl.Hear(w, known), impl.WatchOut{Watch: w})
		unlike := headOf(other(size-1), size)
		got := impl.Hear(w, unlike)
		watchOutSame(t, "an unlike Root, of "+strconv.Itoa(at), got, impl.WatchOut{Watch: foundWith(w, impl.Fraud{A: known, B: unlike})})
		boolSame(t, "guilty", impl.Judge(w.Key, got.Watch.Fraud) && impl.WatchRight(got.Watch), true)
	}
}

// Behind MaxPool that of the greatest Size goes, also if it is the one that is heard.
func TestHearWhenThePoolIsFull(t *testing.T) {
	full := watchOf(4, 10, 20, 30, 40, 50)
	for size, want := range map[int][]int{
		5: {5, 10, 20, 30, 40}, 9: {9, 10, 20, 30, 40}, 11: {10, 11, 20, 30, 40}, 25: {10, 20, 25, 30, 40}, 35: {10, 20, 30, 35, 40},
		39: {10, 20, 30, 39, 40}, 41: {10, 20, 30, 40, 41}, 49: {10, 20, 30, 40, 49}, 51: {10, 20, 30, 40, 50}, 64: {10, 20, 30, 40, 50},
	} {
		got := impl.Hear(full, headOf(numbered(64), size))
		watchOutSame(t, "full, and "+strconv.Itoa(size), got, impl.WatchOut{Watch: watchOf(4, want...)})
		boolSame(t, "right", impl.WatchRight(got.Watch), true)
	}
	// One that went is not known any more: an unlike one of its Size is put in as any other.
	gone := impl.Hear(full, headOf(numbered(64), 25)).Watch
	watchOutSame(t, "unlike to one that went", impl.Hear(gone, headOf(other(49), 50)), impl.WatchOut{Watch: gone})
	w := impl.WatchNew("log", impl.KeyRoot("seed"))
	for at, size := range []int{60, 50, 40, 30, 20, 10, 15, 70 - 6} {
		w = impl.Hear(w, headOf(numbered(64), size)).Watch
		boolSame(t, "at most MaxPool", len(w.Pool) == min(at+1, impl.MaxPool), true)
	}
	watchSame(t, "the least ones stay", w, watchOf(0, 10, 15, 20, 30, 40))
}

// badHeads are not good under the seed's root, or are of another log.
func badHeads(size int) map[string]impl.Head {
	good := headOf(numbered(64), size)
	l := map[string]impl.Head{
		"signed by another seed": headByHand("other", 1, "log", numbered(size), 5),
		"of another log":         headByHand("seed", 1, "logs", numbered(size), 5),
		"of a log before it":     headByHand("seed", 1, "lo", numbered(size), 5),
		"the zero one":           {},
		"of another key":         good,
		"with an End turned":     headCopy(good),
		"with a Path turned":     headCopy(good),
		"with Ends missing":      headCopy(good),
		"of no name":             good,
		"of no time":             good,
		"of another Sig":         good,
	}
	change := func(what string, by func(h *impl.Head)) {
		one := l[what]
		by(&one)
		l[what] = one
	}
	change("of another key", func(h *impl.Head) { h.Sig.Key = (h.Sig.Key + 1) % 4 })
	change("with an End turned", func(h *impl.Head) { h.Sig.Ends[2] = turned(h.Sig.Ends[2], 77) })
	change("with a Path turned", func(h *impl.Head) { h.Sig.Path[1] = turned(h.Sig.Path[1], 5) })
	change("with Ends missing", func(h *impl.Head) { h.Sig.Ends = h.Sig.Ends[:5] })
	change("of no name", func(h *impl.Head) { h.Log = "Log" })
	change("of no time", func(h *impl.Head) { h.Time = -1 })
	change("of another Sig", func(h *impl.Head) { h.Sig = signBySha("seed", 0, "text") })
	return l
}

func TestHearOfBadHeads(t *testing.T) {
	found := impl.Hear(watchOf(5, 9), headOf(other(0), 5)).Watch
	boolSame(t, "found", found.Found && impl.WatchRight(found), true)
	for _, w := range []impl.Watch{watchOf(0), watchOf(5), watchOf(5, 9, 12), found} {
		for _, size := range []int{0, 3, 5, 9, 64} {
			for what, h := range badHeads(size) {
				refusedWith(t, what, impl.Hear(w, h), impl.ErrSum)
				watchOutSame(t, what+", met", impl.Meet(w, []impl.Head{h, h}), impl.WatchOut{Watch: w})
			}
		}
	}
	for what, h := range wrongHeads(headOf(numbered(9), 9)) {
		refusedWith(t, what, impl.Hear(watchOf(5), h), impl.ErrSum)
	}
}

// A watch that found a fraud hears what is good, and nothing changes; nothing is fetched any more.
func TestWhatFoundAFraudStays(t *testing.T) {
	read := watchOf(6, 8, 11)
	for what, by := range map[string]impl.Head{
		"of as many": headOf(other(2), 6), "of fewer": headOf(other(2), 4), "of one in the Pool": headOf(other(7), 11),
	} {
		w := impl.Hear(read, by).Watch
		boolSame(t, what, w.Found && impl.WatchRight(w), true)
		for _, size := range []int{0, 4, 6, 7, 8, 11, 12, 64} {
			for _, row := range [][]string{numbered(64), other(0)} {
				watchOutSame(t, what+", heard", impl.Hear(w, headOf(row, size)), impl.WatchOut{Watch: w})
			}
		}
		met := impl.Meet(w, []impl.Head{headOf(other(0), 5), {}, headOf(numbered(64), 7)})
		watchOutSame(t, what+", met", met, impl.WatchOut{Watch: w, Many: 2})
		numberSame(t, what+", wants", impl.Wants(w), 8)
		headsSame(t, what+", shares", impl.Shares(w), []impl.Head{read.Head, read.Pool[0], read.Pool[1]})
		refusedWith(t, what+", fetched", impl.Fetch(w, 6, numbered(8)[6:]), impl.ErrState)
		refusedWith(t, what+", fetched from elsewhere", impl.Fetch(w, 5, numbered(1)), impl.ErrState)
		refusedWith(t, what+", fetched nothing", impl.Fetch(w, 6, nil), impl.ErrForm)
	}
}

func TestFetch(t *testing.T) {
	row := numbered(64)
	for _, many := range []int{0, 1, 2, 5, 31, 32, 62, 63} {
		for _, size := range []int{many + 1, many + 2, 64} {
			if size > 64 {
				continue
			}
			w, want := watchOf(many, size), watchOf(size)
			what := strconv.Itoa(many) + " up to " + strconv.Itoa(size)
			watchOutSame(t, what, impl.Fetch(w, int64(many), row[many:size]), impl.WatchOut{Watch: want, Many: int64(size)})
			for _, from := range []int64{-1, 0, int64(many) - 1, int64(many) + 1, int64(size), math.MinInt64, math.MaxInt64, 1<<32 + int64(many)} {
				if from != int64(many) {
					refusedWith(t, what+", from elsewhere", impl.Fetch(w, from, row[many:size]), impl.ErrRange)
				}
			}
			if size-many > 1 {
				refusedWith(t, what+", one less", impl.Fetch(w, int64(many), row[many:size-1]), impl.ErrRange)
				refusedWith(t, what+", one less, the last", impl.Fetch(w, int64(many), row[many+1:size]), impl.ErrRange)
			}
			more := append(slices.Clone(row[many:size]), "more")
			code := int64(impl.ErrRange)
			if len(more) > 64 {
				code = impl.ErrForm
			}
			refusedWith(t, what+", one more", impl.Fetch(w, int64(many), more), code)
		}
	}
}

// What goes from the Pool is the least one alone, and only its own entries do.
func TestFetchOfAPool(t *testing.T) {
	w := watchOf(3, 5, 6, 20, 33, 64)
	row := numbered(64)
	for _, next := range []int{6, 20, 33, 64} {
		refusedWith(t, "up to another one", impl.Fetch(w, 3, row[3:next]), impl.ErrRange)
	}
	for _, want := range []impl.Watch{watchOf(5, 6, 20, 33, 64), watchOf(6, 20, 33, 64), watchOf(20, 33, 64), watchOf(33, 64), watchOf(64)} {
		many := int64(len(w.Entries))
		got := impl.Fetch(w, many, row[many:impl.Wants(w)])
		watchOutSame(t, "the next one", got, impl.WatchOut{Watch: want, Many: int64(len(want.Entries))})
		boolSame(t, "right", impl.WatchRight(got.Watch), true)
		w = got.Watch
	}
	refusedWith(t, "nothing more", impl.Fetch(w, 64, []string{"more"}), impl.ErrState)
}

func TestFetchOfOtherTrees(t *testing.T) {
	w := watchOf(3, 9)
	for at := 3; at < 9; at++ {
		refusedWith(t, "one changed", impl.Fetch(w, 3, other(at)[3:9]), impl.ErrSum)
	}
	refusedWith(t, "empty ones", impl.Fetch(w, 3, make([]string, 6)), impl.ErrSum)
	// The log went another way ahead of what was read: its entries are those of the Head, and yet no go-on.
	w.Pool[0] = headOf(other(1), 9)
	boolSame(t, "right", impl.WatchRight(w), true)
	refusedWith(t, "of another row", impl.Fetch(w, 3, numbered(9)[3:]), impl.ErrSum)
	w.Pool[0] = headOf(other(3), 9)
	want := withHead(watchOf(0), other(3)[:9], w.Pool[0])
	watchOutSame(t, "apart behind what was read", impl.Fetch(w, 3, other(3)[3:9]), impl.WatchOut{Watch: want, Many: 9})
}

func TestFetchOfEntriesAtTheirLimits(t *testing.T) {
	for _, length := range []int{0, 1, 99, 100} {
		long := []string{strings.Repeat("x", length), "", strings.Repeat("y", length)}
		h := headByHand("seed", 0, "log", long, 5)
		w := watchOf(0)
		w.Pool = []impl.Head{h}
		watchOutSame(t, "entries of "+strconv.Itoa(length), impl.Fetch(w, 0, long), impl.WatchOut{Watch: withHead(watchOf(0), long, h), Many: 3})
	}
	for what, wrong := range wrongEntries() {
		w := watchOf(0)
		w.Pool = []impl.Head{rootedHead(1, "log", min(64, len(wrong)), treeByCut(wrong))}
		code := int64(impl.ErrForm)
		if len(wrong) > impl.MaxList {
			code = impl.ErrSize
		}
		refusedWith(t, what, impl.Fetch(w, 0, wrong), code)
	}
}

// The first fault in the order of the document, where there are more.
func TestFetchNamesTheFirstFault(t *testing.T) {
	found := impl.Hear(watchOf(5, 9), headOf(other(0), 5)).Watch
	broken := watchOf(5, 9)
	broken.Key = ""
	most, more := make([]string, impl.MaxList), make([]string, impl.MaxList+1)
	long := []string{strings.Repeat("x", impl.MaxEntry+1)}
	for _, w := range []impl.Watch{{}, broken, found, watchOf(5), watchOf(5, 9)} {
		refusedWith(t, "more than MaxList", impl.Fetch(w, -1, more), impl.ErrSize)
		refusedWith(t, "MaxList", impl.Fetch(w, -1, most), impl.ErrForm)
		refusedWith(t, "65", impl.Fetch(w, -1, most[:65]), impl.ErrForm)
		refusedWith(t, "too long", impl.Fetch(w, -1, long), impl.ErrForm)
		refusedWith(t, "none", impl.Fetch(w, 5, nil), impl.ErrForm)
		refusedWith(t, "an empty list", impl.Fetch(w, 5, []string{}), impl.ErrForm)
	}
	for _, w := range []impl.Watch{{}, broken} {
		refusedWith(t, "not right", impl.Fetch(w, 5, numbered(9)[5:]), impl.ErrForm)
	}
	for _, w := range []impl.Watch{found, watchOf(5), watchOf(0)} {
		refusedWith(t, "nothing to fetch", impl.Fetch(w, -1, most[:64]), impl.ErrState)
		refusedWith(t, "nothing to fetch", impl.Fetch(w, 5, numbered(9)[5:]), impl.ErrState)
	}
	refusedWith(t, "from elsewhere, of another tree", impl.Fetch(watchOf(5, 9), 4, other(7)[5:9]), impl.ErrRange)
	refusedWith(t, "too many, of another tree", impl.Fetch(watchOf(5, 9), 5, other(7)[5:10]), impl.ErrRange)
	refusedWith(t, "of another tree", impl.Fetch(watchOf(5, 9), 5, other(7)[5:9]), impl.ErrSum)
}

func TestWantsAndShares(t *testing.T) {
	for many, pools := range map[int][][]int{
		0: {nil, {1}, {64}, {1, 2, 3, 4, 5}, {60, 61, 62, 63, 64}}, 1: {nil, {2}, {2, 64}}, 40: {nil, {41}, {45, 50}, {50, 51, 52, 53, 54}}, 64: {nil},
	} {
		for _, pool := range pools {
			w := watchOf(many, pool...)
			want, shared := int64(0), []impl.Head{}
			if len(pool) > 0 {
				want = int64(pool[0])
			}
			if many > 0 {
				shared = append(shared, w.Head)
			}
			numberSame(t, watchTold(w), impl.Wants(w), want)
			headsSame(t, watchTold(w), impl.Shares(w), append(shared, w.Pool...))
		}
	}
}

func TestMeet(t *testing.T) {
	row := numbered(64)
	w := watchOf(4, 6)
	for _, none := range [][]impl.Head{nil, {}} {
		watchOutSame(t, "no heads", impl.Meet(w, none), impl.WatchOut{Watch: w})
	}
	l := []impl.Head{headOf(row, 9), {}, headOf(row, 2), headByHand("other", 0, "log", row[:8], 1), headOf(row, 5), headOf(row, 6)}
	watchOutSame(t, "good and bad", impl.Meet(w, l), impl.WatchOut{Watch: watchOf(4, 5, 6, 9), Many: 4})
	a, b := headOf(row, 10), headOf(other(8), 10)
	for _, both := range [][]impl.Head{{a, b}, {b, a}} {
		want := watchOf(4, 6)
		want.Pool = append(want.Pool, both[0])
		got := impl.Meet(w, both)
		watchOutSame(t, "in order", got, impl.WatchOut{Watch: foundWith(want, impl.Fraud{A: both[0], B: both[1]}), Many: 2})
		boolSame(t, "right", impl.WatchRight(got.Watch), true)
	}
	// Which stay in a full Pool, and so what is found, hangs on the order.
	crowd := []impl.Head{headOf(row, 7), headOf(row, 8), headOf(row, 9), headOf(row, 11), b}
	found := foundWith(watchWith(6, 7, 8, 9, b), impl.Fraud{A: b, B: a})
	watchOutSame(t, "a among a crowd", impl.Meet(w, append(slices.Clone(crowd), a)), impl.WatchOut{Watch: found, Many: 6})
	crowd = append([]impl.Head{b, headOf(row, 5)}, crowd[:4]...)
	watchOutSame(t, "b went ahead of a", impl.Meet(w, append(crowd, a)), impl.WatchOut{Watch: watchOf(4, 5, 6, 7, 8, 9), Many: 7})
}

// watchWith has read four entries; behind those of four Sizes that head is the last one in its Pool.
func watchWith(first int, second int, third int, fourth int, last impl.Head) impl.Watch {
	w := watchOf(4, first, second, third, fourth)
	w.Pool = append(w.Pool, last)
	return w
}

func TestMeetOfManyHeads(t *testing.T) {
	w := watchOf(4, 6)
	h, bad := headOf(numbered(9), 9), headByHand("other", 0, "log", numbered(9), 9)
	most := slices.Repeat([]impl.Head{h}, impl.MaxList)
	watchOutSame(t, "MaxList", impl.Meet(w, most), impl.WatchOut{Watch: watchOf(4, 6, 9), Many: impl.MaxList})
	most[0], most[17], most[399] = bad, impl.Head{}, bad
	watchOutSame(t, "MaxList, three bad", impl.Meet(w, most), impl.WatchOut{Watch: watchOf(4, 6, 9), Many: impl.MaxList - 3})
	watchOutSame(t, "zero ones", impl.Meet(w, make([]impl.Head, impl.MaxList)), impl.WatchOut{Watch: w})
	for _, one := range []impl.Watch{w, {}, watchOf(4, 6, 6)} {
		refusedWith(t, "one more", impl.Meet(one, append(slices.Clone(most), h)), impl.ErrSize)
		refusedWith(t, "one more, zero ones", impl.Meet(one, make([]impl.Head, impl.MaxList+1)), impl.ErrSize)
	}
}

// rightWatches are at the edges of what is right.
func rightWatches() map[string]impl.Watch {
	full := slices.Repeat([]string{strings.Repeat("x", impl.MaxEntry)}, impl.MaxLeaves)
	empty := rootedHead(0, "log", 0, shaOf(""))
	l := map[string]impl.Watch{
		"new":                 watchOf(0),
		"a Pool alone":        watchOf(0, 1),
		"a full Pool":         watchOf(0, 1, 2, 3, 4, 5),
		"a full Pool above":   watchOf(59, 60, 61, 62, 63, 64),
		"one entry":           watchOf(1, 2),
		"all entries":         watchOf(64),
		"the most there is":   withHead(watchOf(0), full, headByHand("seed", 1, "log", full, 5)),
		"a Head of none":      withHead(watchOf(0, 1), nil, empty),
		"empty entries":       withHead(watchOf(0), make([]string, 3), headByHand("seed", 1, "log", make([]string, 3), 5)),
		"a split":             foundWith(watchOf(4, 6), splitFraud()),
		"a rewrite":           foundWith(watchOf(0), rewriteFraud()),
		"a fraud of the Pool": foundWith(watchOf(2, 5), impl.Fraud{A: headOf(numbered(5), 5), B: headOf(other(0), 5)}),
	}
	w := watchOf(0)
	w.Entries, w.Pool, w.Fraud.Entries = []string{}, []impl.Head{}, []string{}
	w.Head.Sig = impl.Sig{Ends: []string{}, Path: []string{}}
	w.Fraud.A.Sig, w.Fraud.B.Sig = w.Head.Sig, w.Head.Sig
	l["empty lists for none"] = w
	for _, log := range rightNames() {
		l["of "+log] = impl.Watch{Log: log, Key: keyRootBySha("seed"), Pool: []impl.Head{headByHand("seed", 2, log, numbered(3), 4)}}
	}
	return l
}

func TestRightWatches(t *testing.T) {
	for what, w := range rightWatches() {
		boolSame(t, what, impl.WatchRight(w), true)
		boolSame(t, what+" by hand", watchRightByHand(w), true)
		headsSame(t, what, impl.Shares(w), sharesByHand(w))
		watchOutSame(t, what+", met", impl.Meet(w, nil), impl.WatchOut{Watch: w})
		for _, size := range []int{0, 1, 3, 6, 64} {
			h := headByHand("seed", 3, w.Log, other(2)[:size], 8)
			watchOutSame(t, what+", heard", impl.Hear(w, h), hearByHand(w, h))
		}
		wants, many := impl.Wants(w), int64(len(w.Entries))
		if wants > 0 {
			entries := numbered(64)[many:wants]
			watchOutSame(t, what+", fetched", impl.Fetch(w, many, entries), fetchByHand(w, many, entries))
		}
	}
}

// wrongReads are watches whose Entries and Head do not go together, or are not right.
func wrongReads() map[string]impl.Watch {
	w := watchOf(3, 6)
	row := numbered(64)
	l := map[string]impl.Watch{
		"no Entries beside a Head":   withHead(w, nil, w.Head),
		"Entries beside no Head":     withHead(w, w.Entries, impl.Head{}),
		"one entry beside no Head":   withHead(w, []string{""}, impl.Head{}),
		"fewer Entries":              withHead(w, row[:2], w.Head),
		"more Entries":               withHead(w, row[:4], w.Head),
		"other Entries":              withHead(w, other(2)[:3], w.Head),
		"a Head of fewer":            withHead(w, w.Entries, headOf(row, 2)),
		"a Head of more":             withHead(w, w.Entries, headOf(row, 4)),
		"the Root of fewer":          withHead(w, w.Entries, rootedHead(1, "log", 3, treeByCut(row[:2]))),
		"the Size of fewer":          withHead(w, w.Entries, rootedHead(1, "log", 2, treeByCut(row[:3]))),
		"the Size none":              withHead(w, w.Entries, rootedHead(1, "log", 0, treeByCut(row[:3]))),
		"a Head of another row":      withHead(w, w.Entries, headOf(other(0), 3)),
		"a Root of none":             withHead(w, nil, rootedHead(1, "log", 0, shaOf("x"))),
		"a Head of none, not good":   withHead(w, nil, headByHand("other", 1, "log", nil, 4)),
		"a Head with a Log alone":    withHead(w, nil, impl.Head{Log: "log"}),
		"a Head with a Root alone":   withHead(w, nil, impl.Head{Root: shaOf("")}),
		"a Head with a Time alone":   withHead(w, nil, impl.Head{Time: 1}),
		"a Head with a Key alone":    withHead(w, nil, impl.Head{Sig: impl.Sig{Key: 1}}),
		"a Head with an End alone":   withHead(w, nil, impl.Head{Sig: impl.Sig{Ends: []string{""}}}),
		"a Head with a Path alone":   withHead(w, nil, impl.Head{Sig: impl.Sig{Path: []string{""}}}),
		"a Head with a Size alone":   withHead(w, row[:1], impl.Head{Size: 1}),
		"a Head with Size below 0":   withHead(w, nil, impl.Head{Size: -1}),
		"a Head with a great Size":   withHead(w, row[:3], impl.Head{Size: math.MaxInt64}),
		"a Head with the least Size": withHead(w, row[:3], impl.Head{Size: math.MinInt64}),
	}
	for what, h := range badHeads(3) {
		l["a Head "+what] = withHead(w, w.Entries, h)
	}
	for what, wrong := range wrongEntries() {
		l["Entries: "+what] = withHead(watchOf(0), wrong, rootedHead(1, "log", len(wrong), treeByCut(wrong)))
	}
	return l
}

// wrongPools are watches of which only the Pool is not right.
func wrongPools() map[string]impl.Watch {
	l := map[string]impl.Watch{
		"one too many":                 watchOf(3, 4, 5, 6, 7, 8, 9),
		"one too many, nothing read":   watchOf(0, 1, 2, 3, 4, 5, 6),
		"Sizes alike":                  watchOf(3, 5, 5),
		"Sizes alike at the end":       watchOf(3, 4, 6, 6),
		"Sizes falling":                watchOf(3, 5, 4),
		"Sizes falling at the end":     watchOf(3, 5, 7, 6),
		"a Size at what was read":      watchOf(3, 3),
		"a Size at it, and one above":  watchOf(3, 3, 5),
		"a Size below what was read":   watchOf(3, 2),
		"a Size below, and one above":  watchOf(3, 1, 5),
		"the Size none":                watchOf(0, 0),
		"the Size none, and one above": watchOf(0, 0, 1),
	}
	for what, h := range badHeads(9) {
		for at := range 3 {
			w := watchOf(3, 4, 6)
			w.Pool = slices.Insert(w.Pool, at, h)
			l[what+" at "+strconv.Itoa(at)] = w
			w = watchOf(3, 4, 9, 12)
			w.Pool[at] = h
			l[what+" in the place of "+strconv.Itoa(at)] = w
		}
	}
	many := watchOf(3)
	many.Pool = slices.Repeat([]impl.Head{headOf(numbered(5), 5)}, impl.MaxList+1)
	l["far too many"] = many
	many.Pool = make([]impl.Head, 6)
	l["six zero ones"] = many
	return l
}

// wrongFinds are watches whose Fraud is not what Found says.
func wrongFinds() map[string]impl.Watch {
	w := watchOf(3, 6)
	l := map[string]impl.Watch{"found, and no Fraud": foundWith(w, impl.Fraud{})}
	beside := func(what string, f impl.Fraud) {
		one := w
		one.Fraud = f
		l["not found, beside "+what] = one
	}
	beside("a split", splitFraud())
	beside("a rewrite", rewriteFraud())
	beside("an A alone", impl.Fraud{A: w.Head})
	beside("a B alone", impl.Fraud{B: w.Head})
	beside("Entries alone", impl.Fraud{Entries: []string{""}})
	for what, h := range map[string]impl.Head{
		"a Log": {Log: "l"}, "a Size": {Size: -1}, "a Root": {Root: "r"}, "a Time": {Time: 1}, "a Key": {Sig: impl.Sig{Key: 1}},
		"an End": {Sig: impl.Sig{Ends: []string{""}}}, "a Path": {Sig: impl.Sig{Path: []string{""}}},
	} {
		beside("an A with "+what, impl.Fraud{A: h})
		beside("a B with "+what, impl.Fraud{B: h})
	}
	for what, f := range map[string]impl.Fraud{"a split": splitFraud(), "a rewrite": rewriteFraud()} {
		l[what+" with other Entries"] = foundWith(w, impl.Fraud{A: f.A, B: f.B, Entries: numbered(3)})
		l[what+" of one head"] = foundWith(w, impl.Fraud{A: f.A, B: f.A, Entries: f.Entries})
		one, two := fraudCopy(f), fraudCopy(f)
		one.A.Log, one.B.Log = "logs", "logs"
		one.A.Sig, one.B.Sig = signBySha("seed", 0, headTextByHand(one.A)), signBySha("seed", 1, headTextByHand(one.B))
		l[what+" of another log"] = foundWith(w, one)
		two.A.Sig, two.B.Sig = signBySha("other", 0, headTextByHand(f.A)), signBySha("other", 1, headTextByHand(f.B))
		l[what+" of another seed"] = foundWith(w, two)
	}
	turnedRound := rewriteFraud()
	turnedRound.A, turnedRound.B = turnedRound.B, turnedRound.A
	l["a rewrite the other way round"] = foundWith(w, turnedRound)
	l["two heads of one row"] = foundWith(w, impl.Fraud{A: headOf(numbered(9), 3), B: headOf(numbered(9), 9), Entries: numbered(9)})
	return l
}

func wrongWatches() map[string]impl.Watch {
	l := map[string]impl.Watch{"the zero one": {}}
	for kind, some := range map[string]map[string]impl.Watch{"read: ": wrongReads(), "Pool: ": wrongPools(), "Fraud: ": wrongFinds()} {
		for what, w := range some {
			l[kind+what] = w
		}
	}
	whole := foundWith(watchOf(3, 6), splitFraud())
	for _, log := range append(wrongNames(), "logs", "lo", "other") {
		w := whole
		w.Log = log
		l["the Log "+strconv.Itoa(len(log))+" "+(log + "...")[:3]] = w
		w = watchOf(3)
		w.Log = log
		l["the Log, nothing found, "+strconv.Itoa(len(log))+" "+(log + "...")[:3]] = w
	}
	for _, key := range append(otherLengths(whole.Key), turned(whole.Key, 9), keyRootBySha("other")) {
		w := whole
		w.Key = key
		l["a Key of "+strconv.Itoa(len(key))] = w
		w = watchOf(3)
		w.Key = key
		l["a Key, nothing found, of "+strconv.Itoa(len(key))] = w
	}
	return l
}

func TestWrongWatches(t *testing.T) {
	good, bad := headOf(numbered(9), 6), headByHand("other", 0, "log", numbered(6), 1)
	for what, w := range wrongWatches() {
		boolSame(t, what, impl.WatchRight(w), false)
		boolSame(t, what+" by hand", watchRightByHand(w), false)
		refusedWith(t, what+", heard", impl.Hear(w, good), impl.ErrForm)
		refusedWith(t, what+", heard a bad one", impl.Hear(w, bad), impl.ErrForm)
		refusedWith(t, what+", fetched", impl.Fetch(w, 3, numbered(6)[3:]), impl.ErrForm)
		refusedWith(t, what+", fetched from elsewhere", impl.Fetch(w, -1, numbered(6)), impl.ErrForm)
		refusedWith(t, what+", met none", impl.Meet(w, nil), impl.ErrForm)
		refusedWith(t, what+", met", impl.Meet(w, []impl.Head{good, bad}), impl.ErrForm)
		numberSame(t, what+", wants", impl.Wants(w), 0)
		headsSame(t, what+", shares", impl.Shares(w), nil)
	}
	for what, h := range wrongHeads(headOf(numbered(3), 3)) {
		if !headIsZero(h) {
			boolSame(t, "a Head, "+what, impl.WatchRight(withHead(watchOf(3), numbered(3), h)), false)
			boolSame(t, "a Head beside nothing, "+what, impl.WatchRight(withHead(watchOf(0), nil, h)), false)
		}
		w := watchOf(2, 3, 4)
		w.Pool[0] = h
		boolSame(t, "in the Pool, "+what, impl.WatchRight(w), false)
	}
}

// A name that the heads are not of is right where there are none.
func TestWatchRightOfAnotherName(t *testing.T) {
	w := watchOf(0)
	w.Log = "logs"
	boolSame(t, "without heads", impl.WatchRight(w), true)
	w.Key = strings.Repeat("k", 32)
	boolSame(t, "of any Key", impl.WatchRight(w), true)
	refusedWith(t, "of the other log", impl.Hear(w, headOf(numbered(3), 3)), impl.ErrSum)
}

// logs sign rows that go apart at different places, with any key and time; some heads are no good.
type logs struct {
	rows  [][]string
	heads []impl.Head
}

func forkedLogs(r *rand.Rand, longest int) logs {
	row := numbered(longest)
	l := logs{rows: [][]string{row, with(row, 1, "x"), with(row, longest/2, "y"), with(row, longest-1, "z")}}
	for _, one := range l.rows {
		for size := range longest + 1 {
			l.heads = append(l.heads, headByHand("seed", r.Intn(4), "log", one[:size], int64(r.Intn(100))))
		}
	}
	l.heads = append(l.heads, impl.Head{}, headByHand("other", 0, "log", row[:3], 1), headByHand("seed", 0, "logs", row[:3], 1))
	return l
}

// head is of the first row, if it is to be an honest one, else of any.
func (l logs) head(r *rand.Rand, honest bool) impl.Head {
	if honest {
		return l.heads[r.Intn(len(l.rows[0])+1)]
	}
	return l.heads[r.Intn(len(l.heads))]
}

// entriesFor are mostly those that a watch asks for, of a row that goes on with what it has.
func (l logs) entriesFor(r *rand.Rand, w impl.Watch) (int64, []string) {
	from, to := len(w.Entries), int(impl.Wants(w))
	row := l.rows[0]
	for _, one := range l.rows {
		if len(w.Pool) > 0 && treeByCut(one[:to]) == w.Pool[0].Root {
			row = one
		}
	}
	switch r.Intn(8) {
	case 0:
		row = l.rows[r.Intn(len(l.rows))]
	case 1:
		to = min(len(row), to+1)
	case 2:
		from = max(0, from-1)
	}
	return int64(from), row[from:max(from, to)]
}

// keeps asks for promise 9 of one step.
func keeps(t *testing.T, before impl.Watch, after impl.Watch) {
	t.Helper()
	boolSame(t, "right", impl.WatchRight(after), true)
	boolSame(t, "right by hand", watchRightByHand(after), true)
	boolSame(t, "of one log and Key", after.Log == before.Log && after.Key == before.Key, true)
	listSame(t, "what it had read", after.Entries[:min(len(before.Entries), len(after.Entries))], before.Entries)
	boolSame(t, "a Head stays one", headIsZero(before.Head) || !headIsZero(after.Head), true)
	boolSame(t, "what it found is guilty", impl.Judge(after.Key, after.Fraud), after.Found)
	boolSame(t, "guilty by hand", judgeByHand(after.Key, after.Fraud), after.Found)
	if before.Found {
		watchSame(t, "what has found a fraud", after, before)
	}
}

// Promise 9: any steps, each held against those by hand.
func TestRightWatchStaysRight(t *testing.T) {
	r := rand.New(rand.NewSource(seed))
	l := forkedLogs(r, 8)
	codes, found, read := map[int64]int{}, map[string]int{}, 0
	for range 150 {
		w := impl.WatchNew("log", keyRootBySha("seed"))
		for range 16 {
			before := watchCopy(w)
			got, want := step(r, l, w)
			watchOutSame(t, "a step", got, want)
			watchSame(t, "what was handed in", w, before)
			codes[got.Code]++
			if got.Code == impl.OK {
				w = got.Watch
			}
			keeps(t, before, w)
		}
		switch f := w.Fraud; {
		case !w.Found:
		case len(f.Entries) > 0:
			found["of fewer"]++
		case headEqual(f.A, w.Head):
			found["of as many"]++
		default:
			found["of the Pool"]++
		}
		read = max(read, len(w.Entries))
	}
	boolSame(t, "each kind was found", found["of fewer"] > 5 && found["of as many"] > 5 && found["of the Pool"] > 5, true)
	for _, code := range []int64{impl.OK, impl.ErrForm, impl.ErrSum, impl.ErrState, impl.ErrRange} {
		boolSame(t, "the code "+strconv.FormatInt(code, 10)+" was told", codes[code] > 5, true)
	}
	boolSame(t, "much was read", read == 8, true)
}

// step answers also what it must be.
func step(r *rand.Rand, l logs, w impl.Watch) (impl.WatchOut, impl.WatchOut) {
	honest := r.Intn(8) > 0
	switch r.Intn(8) {
	case 0, 1, 2, 3:
		h := l.head(r, honest)
		return impl.Hear(w, h), hearByHand(w, h)
	case 4:
		var heads []impl.Head
		for range r.Intn(4) {
			heads = append(heads, l.head(r, honest))
		}
		return impl.Meet(w, heads), meetByHand(w, heads)
	}
	from, entries := l.entriesFor(r, w)
	return impl.Fetch(w, from, entries), fetchByHand(w, from, entries)
}

// Whoever signs one row alone is not found out, in whatever order its heads come.
func TestHonestLogIsNotFound(t *testing.T) {
	r := rand.New(rand.NewSource(seed))
	l := forkedLogs(r, 12)
	for range 12 {
		w := impl.WatchNew("log", keyRootBySha("seed"))
		for range 12 {
			w = impl.Hear(w, l.head(r, true)).Watch
			if wants := impl.Wants(w); wants > 0 && r.Intn(2) == 0 {
				w = impl.Fetch(w, int64(len(w.Entries)), l.rows[0][len(w.Entries):wants]).Watch
			}
			boolSame(t, "clean", impl.WatchRight(w) && !w.Found, true)
		}
	}
}

// listsOf are all lists of texts of a watch.
func listsOf(w impl.Watch) [][]string {
	l := [][]string{w.Entries, w.Fraud.Entries}
	for _, h := range append([]impl.Head{w.Head, w.Fraud.A, w.Fraud.B}, w.Pool...) {
		l = append(l, h.Sig.Ends, h.Sig.Path)
	}
	return l
}

// placesOf tells where in memory each list, its room too, and each text of a watch stands.
// (Texts of one byte are of Go itself, and stand in one place each.)
func placesOf(w impl.Watch) map[unsafe.Pointer]int {
	places := map[unsafe.Pointer]int{}
	text := func(s string) {
		if len(s) > 1 {
			places[unsafe.Pointer(unsafe.StringData(s))]++
		}
	}
	text(w.Log)
	text(w.Key)
	for _, h := range append([]impl.Head{w.Head, w.Fraud.A, w.Fraud.B}, w.Pool...) {
		text(h.Log)
		text(h.Root)
	}
	for _, l := range listsOf(w) {
		for _, s := range l {
			text(s)
		}
		for at := range l[:cap(l)] {
			places[unsafe.Pointer(&l[:cap(l)][at])]++
		}
	}
	for at := range w.Pool[:cap(w.Pool)] {
		places[unsafe.Pointer(&w.Pool[:cap(w.Pool)][at])]++
	}
	return places
}

// apart asks also that no place of the answer is there twice.
func apart(t *testing.T, what string, answer impl.Watch, given ...impl.Watch) {
	t.Helper()
	own := placesOf(answer)
	for _, times := range own {
		if times > 1 {
			t.Errorf("%s: lists of the answer share memory", what)
		}
	}
	for _, one := range given {
		for place := range placesOf(one) {
			if own[place] > 0 {
				t.Errorf("%s: shares memory with what was handed in", what)
			}
		}
	}
}

// roomy has room behind each list, into which an append that takes it for its own would write.
func roomy(l []string) []string {
	return append(make([]string, 0, len(l)+9), l...)
}

func roomyHead(h impl.Head) impl.Head {
	h.Sig.Ends, h.Sig.Path = roomy(h.Sig.Ends), roomy(h.Sig.Path)
	return h
}

func roomyWatch(w impl.Watch) impl.Watch {
	w.Entries, w.Head = roomy(w.Entries), roomyHead(w.Head)
	pool := make([]impl.Head, 0, len(w.Pool)+9)
	for _, h := range w.Pool {
		pool = append(pool, roomyHead(h))
	}
	w.Pool = pool
	w.Fraud = impl.Fraud{A: roomyHead(w.Fraud.A), B: roomyHead(w.Fraud.B), Entries: roomy(w.Fraud.Entries)}
	return w
}

func roomIsEmpty(t *testing.T, what string, w impl.Watch) {
	t.Helper()
	for _, l := range listsOf(w) {
		for _, one := range l[len(l):cap(l)] {
			bytesSame(t, what+": the room behind a list", one, "")
		}
	}
	for _, h := range w.Pool[len(w.Pool):cap(w.Pool)] {
		headSame(t, what+": the room behind the Pool", h, impl.Head{})
	}
}

func TestWatchesShareNothing(t *testing.T) {
	row := numbered(64)
	watches := rightWatches()
	for _, many := range []int{0, 3} {
		watches["some in the Pool, "+strconv.Itoa(many)] = watchOf(many, 6, 7, 9)
	}
	for what, w := range watches {
		w = roomyWatch(w)
		before := watchCopy(w)
		for _, size := range []int{0, 2, 4, 5, 6, 8, 64} {
			for _, from := range [][]string{row, other(1)} {
				h := roomyHead(headByHand("seed", 2, w.Log, from[:size], 3))
				l := []impl.Head{h, h, {}, h}
				given := impl.Watch{Pool: l}
				apart(t, what+", heard", impl.Hear(w, h).Watch, w, given)
				apart(t, what+", met", impl.Meet(w, l).Watch, w, given)
				roomIsEmpty(t, what, given)
			}
		}
		wants, many := impl.Wants(w), int64(len(w.Entries))
		entries := roomy(row[many:max(many, wants)])
		apart(t, what+", fetched", impl.Fetch(w, many, entries).Watch, w, impl.Watch{Entries: entries})
		apart(t, what+", shared", impl.Watch{Pool: impl.Shares(w)}, w)
		apart(t, what+", new", impl.WatchNew(w.Log, w.Key), w)
		watchSame(t, what, w, before)
		roomIsEmpty(t, what, w)
		listSame(t, what+": the entries", entries, row[many:max(many, wants)])
	}
}

// What is handed in may be one list at several places; what is answered may not.
func TestAnswersOfOneListHandedInTwice(t *testing.T) {
	w := watchOf(5, 9)
	w.Entries = w.Entries[:5:5]
	w = foundWith(w, impl.Fraud{A: headOf(other(1), 3), B: w.Head, Entries: w.Entries})
	boolSame(t, "right", impl.WatchRight(w), true)
	apart(t, "heard", impl.Hear(w, w.Head).Watch, w)
	apart(t, "met", impl.Meet(w, []impl.Head{w.Head, w.Pool[0], w.Head}).Watch, w)
	found := impl.Hear(watchOf(5, 9), headOf(other(1), 3)).Watch
	apart(t, "found", found, w)
	found = impl.Meet(watchOf(5), []impl.Head{headOf(numbered(9), 9), headOf(other(1), 9)}).Watch
	boolSame(t, "found in the Pool", found.Found, true)
	apart(t, "found in the Pool", found, w)
	all := headOf(numbered(9), 9)
	both := append(slices.Clone(all.Sig.Ends), all.Sig.Path...)
	all.Sig.Ends, all.Sig.Path = both[:6], both[6:]
	apart(t, "two lists in one", impl.Hear(watchOf(5), all).Watch, impl.Watch{Head: all})
}
