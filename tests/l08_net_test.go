package tests

import (
	"math"
	"math/rand"
	"slices"
	"strconv"
	"strings"
	"testing"
	"unsafe"

	"loop.example/g00390/impl"
)

// What two watchers come to is held against two that are made by hand, with Go's own SHA-256.

const (
	byA = 0
	byB = 1
	// An event's n grows by one with the branch, by two with the size, and by 26 with the key.
	allHears = 26 * 4
	meeting  = 4
)

// hearing, fetching and meeting spell the events of a script.
func hearing(who int, other bool, size int, key int) int64 {
	return 5*int64(branchNumber(other)+2*size+26*key) + int64(who)
}

func fetching(who int, other bool) int64 {
	return 5*int64(branchNumber(other)) + 2 + int64(who)
}

func branchNumber(other bool) int {
	if other {
		return 1
	}
	return 0
}

func branchByHand(fork int, other bool) []string {
	own := strings.Fields("e0 e1 e2 e3 e4 e5 e6 e7 e8 e9 e10 e11")
	if !other {
		return own
	}
	return append(own[:fork:fork], strings.Fields("f0 f1 f2 f3 f4 f5 f6 f7 f8 f9 f10 f11")[fork:]...)
}

// signedBy is the Head of the first ones of a branch.
func signedBy(fork int, other bool, size int, key int, time int) impl.Head {
	return headByHand("seed", key, "log", branchByHand(fork, other)[:size], int64(time))
}

func freshWatch() impl.Watch {
	return impl.Watch{Log: "log", Key: keyRootBySha("seed")}
}

// readBy has read what its Head is of, of that branch, and has yet to read others.
func readBy(fork int, other bool, head impl.Head, pool ...impl.Head) impl.Watch {
	w := waitingFor(pool...)
	w.Entries, w.Head = branchByHand(fork, other)[:head.Size], head
	return w
}

func waitingFor(pool ...impl.Head) impl.Watch {
	w := freshWatch()
	w.Pool = pool
	return w
}

func netByHand(fork int64, script []int64) impl.NetOut {
	if len(script) > 400 {
		return impl.NetOut{Code: impl.ErrSize}
	}
	if fork < 0 || fork > 12 {
		return impl.NetOut{Code: impl.ErrForm}
	}
	both, first := []impl.Watch{freshWatch(), freshWatch()}, int64(-1)
	for at, it := range script {
		if it >= 0 {
			eventByHand(both, int(fork), int64(at), it)
		}
		if first < 0 && (both[byA].Found || both[byB].Found) {
			first = int64(at)
		}
	}
	return impl.NetOut{A: both[byA], B: both[byB], At: first}
}

func eventByHand(both []impl.Watch, fork int, at int64, it int64) {
	n := it / 5
	row := branchByHand(fork, n%2 == 1)
	take := func(who int64, out impl.WatchOut) {
		if out.Code == impl.OK {
			both[who] = out.Watch
		}
	}
	switch kind := it % 5; kind {
	case 0, 1:
		take(kind, hearByHand(both[kind], headByHand("seed", int(n/26%4), "log", row[:n/2%13], at)))
	case 2, 3:
		if w := both[kind-2]; len(w.Pool) > 0 {
			from := int64(len(w.Entries))
			take(kind-2, fetchByHand(w, from, row[from:w.Pool[0].Size]))
		}
	case 4:
		ofA, ofB := sharesByHand(both[byA]), sharesByHand(both[byB])
		take(byA, meetByHand(both[byA], ofB))
		take(byB, meetByHand(both[byB], ofA))
	}
}

func netSame(t *testing.T, what string, got impl.NetOut, want impl.NetOut) {
	t.Helper()
	if got.At != want.At || got.Code != want.Code {
		t.Errorf("%s: got At %d and Code %d, want %d and %d", what, got.At, got.Code, want.At, want.Code)
	}
	watchSame(t, what+", A", got.A, want.A)
	watchSame(t, what+", B", got.B, want.B)
}

// netRuns asks also for what is so of every script: both stay right, what they found is guilty, the script is as it was.
func netRuns(t *testing.T, what string, fork int, script []int64, want impl.NetOut) {
	t.Helper()
	before := slices.Clone(script)
	got := impl.NetRun(int64(fork), script)
	netSame(t, what, got, want)
	netSame(t, what+", by hand", got, netByHand(int64(fork), script))
	boolSame(t, what+": the script is as it was", slices.Equal(script, before), true)
	for _, w := range []impl.Watch{got.A, got.B} {
		boolSame(t, what+": right", impl.WatchRight(w), true)
		boolSame(t, what+": guilty", impl.Judge(w.Key, w.Fraud), w.Found)
	}
	boolSame(t, what+": At", got.At >= 0, got.A.Found || got.B.Found)
}

// clean is what was not found out.
func clean(one impl.Watch, two impl.Watch) impl.NetOut {
	return impl.NetOut{A: one, B: two, At: -1}
}

func TestConstantsOfNet(t *testing.T) {
	if impl.MaxFork != 12 {
		t.Errorf("got MaxFork %d", impl.MaxFork)
	}
}

func wrongForks() []int64 {
	return []int64{-1, -2, -12, 13, 14, 64, 256, 1 << 32, 1<<32 + 3, math.MinInt64, math.MaxInt64}
}

func TestBranch(t *testing.T) {
	own := "e0 e1 e2 e3 e4 e5 e6 e7 e8 e9 e10 e11"
	for fork, want := range []string{
		"f0 f1 f2 f3 f4 f5 f6 f7 f8 f9 f10 f11", "e0 f1 f2 f3 f4 f5 f6 f7 f8 f9 f10 f11",
		"e0 e1 f2 f3 f4 f5 f6 f7 f8 f9 f10 f11", "e0 e1 e2 f3 f4 f5 f6 f7 f8 f9 f10 f11",
		"e0 e1 e2 e3 f4 f5 f6 f7 f8 f9 f10 f11", "e0 e1 e2 e3 e4 f5 f6 f7 f8 f9 f10 f11",
		"e0 e1 e2 e3 e4 e5 f6 f7 f8 f9 f10 f11", "e0 e1 e2 e3 e4 e5 e6 f7 f8 f9 f10 f11",
		"e0 e1 e2 e3 e4 e5 e6 e7 f8 f9 f10 f11", "e0 e1 e2 e3 e4 e5 e6 e7 e8 f9 f10 f11",
		"e0 e1 e2 e3 e4 e5 e6 e7 e8 e9 f10 f11", "e0 e1 e2 e3 e4 e5 e6 e7 e8 e9 e10 f11", own,
	} {
		listSame(t, "the other one of "+strconv.Itoa(fork), impl.Branch(int64(fork), true), strings.Fields(want))
		listSame(t, "the one of "+strconv.Itoa(fork), impl.Branch(int64(fork), false), strings.Fields(own))
	}
	for _, fork := range wrongForks() {
		for _, other := range []bool{false, true} {
			listSame(t, "of the fork "+strconv.FormatInt(fork, 10), impl.Branch(fork, other), nil)
		}
	}
}

// Promise 11.
func TestBranchesAreAlikeAheadOfTheFork(t *testing.T) {
	for fork := int64(0); fork <= impl.MaxFork; fork++ {
		one, two := impl.Branch(fork, false), impl.Branch(fork, true)
		boolSame(t, "MaxFork entries", len(one) == impl.MaxFork && len(two) == impl.MaxFork, true)
		for at := range one {
			boolSame(t, "fork "+strconv.FormatInt(fork, 10)+", entry "+strconv.Itoa(at), one[at] == two[at], int64(at) < fork)
		}
		for size := 0; size <= impl.MaxFork; size++ {
			alike := impl.TreeHash(one[:size]) == impl.TreeHash(two[:size])
			boolSame(t, "the trees of "+strconv.Itoa(size), alike, int64(size) <= fork)
		}
	}
}

func TestBranchesShareNothing(t *testing.T) {
	places := map[unsafe.Pointer]bool{}
	for range 2 {
		for fork := int64(0); fork <= impl.MaxFork; fork++ {
			for _, other := range []bool{false, true} {
				l := impl.Branch(fork, other)
				for place := range placesOf(impl.Watch{Entries: l}) {
					boolSame(t, "a place of another answer", places[place], false)
					places[place] = true
				}
				for at := range l {
					l[at] = "changed"
				}
				listSame(t, "the next one", impl.Branch(fork, other), branchByHand(int(fork), other))
			}
		}
	}
}

func TestNetOfNoEvents(t *testing.T) {
	new := clean(freshWatch(), freshWatch())
	for fork := 0; fork <= impl.MaxFork; fork++ {
		netRuns(t, "no script", fork, nil, new)
		netRuns(t, "an empty one", fork, []int64{}, new)
		for _, it := range []int64{-1, -2, -4, -5, -6, -10, -26*5 - 1, math.MinInt64, math.MinInt64 + 1, math.MinInt64 + 4} {
			netRuns(t, "one event below 0", fork, []int64{it}, new)
		}
		netRuns(t, "MaxList below 0", fork, slices.Repeat([]int64{-1}, impl.MaxList), new)
	}
}

// An event of 0 is a Head of no entries for A, which changes nothing; one of 1 the same for B.
func TestNetOfTheLeastEvents(t *testing.T) {
	new := clean(freshWatch(), freshWatch())
	for it := range int64(10) {
		netRuns(t, "the event "+strconv.FormatInt(it, 10), 3, []int64{it}, new)
	}
	netRuns(t, "the event 10", 3, []int64{10}, clean(waitingFor(signedBy(3, false, 1, 0, 0)), freshWatch()))
	netRuns(t, "the event 16", 0, []int64{16}, clean(freshWatch(), waitingFor(signedBy(0, true, 1, 0, 0))))
	netRuns(t, "the events -1, 0, 1", 3, []int64{-1, 0, 1}, new)
}

// Each Head there is, heard by each: its time is the event's number, which those that do nothing count for.
func TestNetHearsEachHead(t *testing.T) {
	for _, fork := range []int{0, 1, 5, 11, 12} {
		for key := range 4 {
			for size := 0; size <= impl.MaxFork; size++ {
				for _, other := range []bool{false, true} {
					time := (size + key) % 3
					ahead := slices.Repeat([]int64{-7}, time)
					heard := waitingFor(signedBy(fork, other, size, key, time))
					if size == 0 {
						heard = freshWatch()
					}
					what := "fork " + strconv.Itoa(fork) + ", " + strconv.Itoa(size) + " of " + strconv.FormatBool(other) + ", key " + strconv.Itoa(key)
					netRuns(t, what+", A", fork, append(ahead, hearing(byA, other, size, key)), clean(heard, freshWatch()))
					netRuns(t, what+", B", fork, append(ahead, hearing(byB, other, size, key)), clean(freshWatch(), heard))
				}
			}
		}
	}
}

// An event says the same as one whose n is greater by all heads there are, or by any even number, of a fetch.
func TestNetOfGreaterEvents(t *testing.T) {
	for _, times := range []int64{1, 2, 77, 1 << 40} {
		more := 5 * allHears * times
		script := []int64{hearing(byA, true, 7, 3), hearing(byB, false, 3, 2), fetching(byA, true), fetching(byB, false), meeting}
		want := netByHand(2, script)
		boolSame(t, "found by A", want.At == 4 && want.A.Found && !want.B.Found, true)
		for at := range script {
			one := slices.Clone(script)
			one[at] += more
			netRuns(t, "one event greater", 2, one, want)
		}
		netRuns(t, "a fetch greater by two", 2, append(slices.Clone(script[:2]), script[2]+10*times, script[3]+30*times, meeting+5*times), want)
	}
}

// The greatest n of all is odd, and of no entries; that of eight events less is of the other branch, all entries and the key 3.
func TestNetOfTheGreatestEvents(t *testing.T) {
	const most, fork = math.MaxInt64, 4
	const aFetches, bHearsNone, aHearsNone, met, bFetchesOwn, aFetchesOwn = most, most - 1, most - 2, most - 3, most - 4, most - 5
	const meetsToo, bFetches, aFetchesToo, bHears, aHears = most - 8, most - 9, most - 10, most - 11, most - 12
	nothing := clean(freshWatch(), freshWatch())
	for it := int64(most); it > most-8 && it <= most; it-- {
		netRuns(t, "the greatest ones alone", fork, []int64{it}, nothing)
	}
	netRuns(t, "all of them", fork, []int64{aHearsNone, bHearsNone, aFetches, bFetchesOwn, met}, nothing)
	heard := waitingFor(signedBy(fork, true, 12, 3, 1))
	read := readBy(fork, true, signedBy(fork, true, 12, 3, 1))
	netRuns(t, "A hears", fork, []int64{math.MinInt64, aHears}, clean(heard, freshWatch()))
	netRuns(t, "B hears", fork, []int64{math.MinInt64, bHears}, clean(freshWatch(), heard))
	netRuns(t, "A fetches", fork, []int64{math.MinInt64, aHears, aFetches}, clean(read, freshWatch()))
	netRuns(t, "A fetches by one of less", fork, []int64{math.MinInt64, aHears, aFetchesToo}, clean(read, freshWatch()))
	netRuns(t, "B fetches", fork, []int64{math.MinInt64, bHears, bFetches}, clean(freshWatch(), read))
	netRuns(t, "A fetches of the branch that was not heard", fork, []int64{math.MinInt64, aHears, aFetchesOwn}, clean(heard, freshWatch()))
	netRuns(t, "B fetches of the branch that was not heard", fork, []int64{math.MinInt64, bHears, bFetchesOwn}, clean(freshWatch(), heard))
	netRuns(t, "both meet", fork, []int64{math.MinInt64, aHears, met}, clean(heard, heard))
	netRuns(t, "both meet by one of less", fork, []int64{math.MinInt64, bHears, meetsToo}, clean(heard, heard))
}

// A story, told event by event.
func TestNetGoesOn(t *testing.T) {
	const fork = 5
	h := func(other bool, size int, key int, time int) impl.Head { return signedBy(fork, other, size, key, time) }
	four, six, three, nine := h(false, 4, 1, 0), h(true, 6, 0, 1), h(true, 3, 2, 3), h(false, 9, 3, 6)
	script := []int64{
		hearing(byA, false, 4, 1), hearing(byB, true, 6, 0), fetching(byA, false), hearing(byB, true, 3, 2), fetching(byB, false),
		-1, hearing(byA, false, 9, 3), fetching(byB, true), fetching(byA, false), fetching(byA, false), meeting, hearing(byB, false, 1, 0), meeting,
	}
	rewrite := impl.Fraud{A: six, B: nine, Entries: branchByHand(fork, false)[:9]}
	final := foundWith(readBy(fork, false, nine), rewrite)
	told := []impl.NetOut{
		clean(freshWatch(), freshWatch()),
		clean(waitingFor(four), freshWatch()),
		clean(waitingFor(four), waitingFor(six)),
		clean(readBy(fork, false, four), waitingFor(six)),
		clean(readBy(fork, false, four), waitingFor(three, six)),
		clean(readBy(fork, false, four), readBy(fork, true, three, six)),
		clean(readBy(fork, false, four), readBy(fork, true, three, six)),
		clean(readBy(fork, false, four, nine), readBy(fork, true, three, six)),
		clean(readBy(fork, false, four, nine), readBy(fork, true, six)),
		clean(readBy(fork, false, nine), readBy(fork, true, six)),
		clean(readBy(fork, false, nine), readBy(fork, true, six)),
		{A: final, B: readBy(fork, true, six, nine), At: 10},
		{A: final, B: readBy(fork, true, six, nine), At: 10},
		{A: final, B: readBy(fork, true, six, nine), At: 10},
	}
	for at, want := range told {
		netRuns(t, "behind "+strconv.Itoa(at)+" events", fork, script[:at], want)
	}
}

func TestNetFetch(t *testing.T) {
	for _, fork := range []int{0, 1, 4, 11, 12} {
		for size := 1; size <= impl.MaxFork; size++ {
			for _, heard := range []bool{false, true} {
				for _, asked := range []bool{false, true} {
					h := signedBy(fork, heard, size, 1, 0)
					want := waitingFor(h)
					if heard == asked || size <= fork {
						want = readBy(fork, heard, h)
					}
					what := "fork " + strconv.Itoa(fork) + ", " + strconv.Itoa(size) + " of " + strconv.FormatBool(heard) + " asked of " + strconv.FormatBool(asked)
					netRuns(t, what+", A", fork, []int64{hearing(byA, heard, size, 1), fetching(byA, asked)}, clean(want, freshWatch()))
					netRuns(t, what+", B", fork, []int64{hearing(byB, heard, size, 1), fetching(byB, asked)}, clean(freshWatch(), want))
				}
			}
		}
	}
}

func TestNetFetchOfNothing(t *testing.T) {
	two := signedBy(3, true, 2, 0, 0)
	for _, other := range []bool{false, true} {
		netRuns(t, "nothing was heard", 3, []int64{fetching(byA, other), fetching(byB, other)}, clean(freshWatch(), freshWatch()))
		netRuns(t, "the other one heard", 3, []int64{hearing(byA, true, 2, 0), fetching(byB, other)}, clean(waitingFor(two), freshWatch()))
		netRuns(t, "all is read", 3, []int64{hearing(byA, true, 2, 0), fetching(byA, true), fetching(byA, other)}, clean(readBy(3, true, two), freshWatch()))
		netRuns(t, "a Head of none", 3, []int64{hearing(byA, other, 0, 2), fetching(byA, other)}, clean(freshWatch(), freshWatch()))
	}
	found := []int64{hearing(byA, false, 2, 0), hearing(byA, false, 7, 0), hearing(byA, true, 7, 1)}
	want := netByHand(3, found)
	boolSame(t, "found with some in the Pool", want.A.Found && len(want.A.Pool) == 2, true)
	netRuns(t, "a fraud was found", 3, append(found, fetching(byA, false), fetching(byA, true)), want)
}

// From where the Entries end, up to the least Size in the Pool, one after the other.
func TestNetFetchesOneAfterTheOther(t *testing.T) {
	const fork = 6
	h := func(other bool, size int, time int) impl.Head { return signedBy(fork, other, size, 0, time) }
	heard := []int64{hearing(byB, true, 12, 0), hearing(byB, false, 1, 0), hearing(byB, true, 7, 0), hearing(byB, false, 6, 0)}
	pool := []impl.Head{h(false, 1, 1), h(false, 6, 3), h(true, 7, 2), h(true, 12, 0)}
	for many, want := range []impl.Watch{
		waitingFor(pool...), readBy(fork, true, pool[0], pool[1:]...), readBy(fork, true, pool[1], pool[2:]...),
		readBy(fork, true, pool[2], pool[3]), readBy(fork, true, pool[3]), readBy(fork, true, pool[3]),
	} {
		script := append(slices.Clone(heard), slices.Repeat([]int64{fetching(byB, true)}, many)...)
		netRuns(t, strconv.Itoa(many)+" times", fork, script, clean(freshWatch(), want))
	}
	script := append(slices.Clone(heard), slices.Repeat([]int64{fetching(byB, false)}, 4)...)
	netRuns(t, "of the other branch, up to the fork", fork, script, clean(freshWatch(), readBy(fork, false, pool[1], pool[2:]...)))
	script = append(script, fetching(byB, true), fetching(byB, false), fetching(byB, true))
	netRuns(t, "and behind it of the right one", fork, script, clean(freshWatch(), readBy(fork, true, pool[3])))
}

func TestNetMeet(t *testing.T) {
	const fork = 3
	h := func(other bool, size int, key int, time int) impl.Head { return signedBy(fork, other, size, key, time) }
	netRuns(t, "nothing was heard", fork, []int64{meeting}, clean(freshWatch(), freshWatch()))
	netRuns(t, "over and over", fork, slices.Repeat([]int64{meeting}, impl.MaxList), clean(freshWatch(), freshWatch()))
	five := h(true, 5, 1, 0)
	netRuns(t, "A heard one", fork, []int64{hearing(byA, true, 5, 1), meeting}, clean(waitingFor(five), waitingFor(five)))
	netRuns(t, "B heard one", fork, []int64{hearing(byB, true, 5, 1), meeting}, clean(waitingFor(five), waitingFor(five)))
	netRuns(t, "A read", fork, []int64{hearing(byA, true, 5, 1), fetching(byA, true), meeting}, clean(readBy(fork, true, five), waitingFor(five)))
	netRuns(t, "B read", fork, []int64{hearing(byB, true, 5, 1), fetching(byB, true), meeting}, clean(waitingFor(five), readBy(fork, true, five)))
	both := []int64{hearing(byA, true, 5, 1), hearing(byB, false, 2, 2), meeting}
	netRuns(t, "unlike Sizes", fork, both, clean(waitingFor(h(false, 2, 2, 1), five), waitingFor(h(false, 2, 2, 1), five)))
	alike := []int64{hearing(byA, true, 3, 1), hearing(byB, false, 3, 2), meeting}
	netRuns(t, "alike at the fork", fork, alike, clean(waitingFor(h(true, 3, 1, 0)), waitingFor(h(false, 3, 2, 1))))
	unlike := []int64{hearing(byA, true, 4, 1), hearing(byB, false, 4, 2), meeting}
	one, two := h(true, 4, 1, 0), h(false, 4, 2, 1)
	want := impl.NetOut{A: foundWith(waitingFor(one), impl.Fraud{A: one, B: two}), B: foundWith(waitingFor(two), impl.Fraud{A: two, B: one}), At: 2}
	netRuns(t, "unlike behind it", fork, unlike, want)
	netRuns(t, "and again", fork, append(unlike, meeting, fetching(byA, true), meeting), want)
}

// Both tell what they shared ahead: who hears one more gives up its furthest, which the other one hears yet.
func TestNetMeetTellsWhatWasSharedAhead(t *testing.T) {
	for _, fork := range []int{2, 12} {
		h := func(size int, time int) impl.Head { return signedBy(fork, false, size, 0, time) }
		for who := range 2 {
			var script []int64
			var five []impl.Head
			for at, size := range []int{3, 5, 7, 9, 11} {
				script = append(script, hearing(who, false, size, 0))
				five = append(five, h(size, at))
			}
			one := h(1, 5)
			script = append(script, hearing(1-who, false, 1, 0), fetching(1-who, false), meeting)
			full, reader := waitingFor(append([]impl.Head{one}, five[:4]...)...), readBy(fork, false, one, five...)
			want := clean(full, reader)
			if who == byB {
				want = clean(reader, full)
			}
			netRuns(t, "fork "+strconv.Itoa(fork)+", "+strconv.Itoa(who)+" is full", fork, script, want)
		}
	}
}

// A Head that goes from a full Pool at the meet itself proves the fraud yet, to the one that was told of it.
func TestNetMeetFindsByWhatWasSharedAhead(t *testing.T) {
	const fork = 8
	h := func(other bool, size int, time int) impl.Head { return signedBy(fork, other, size, 0, time) }
	for who := range 2 {
		script := []int64{
			hearing(who, false, 1, 0), hearing(who, false, 2, 0), hearing(who, false, 4, 0), hearing(who, false, 5, 0), hearing(who, true, 10, 0),
			hearing(1-who, false, 3, 0), fetching(1-who, false), hearing(1-who, false, 10, 0), meeting,
		}
		full := waitingFor(h(false, 1, 0), h(false, 2, 1), h(false, 3, 5), h(false, 4, 2), h(false, 5, 3))
		finder := readBy(fork, false, h(false, 3, 5), h(false, 4, 2), h(false, 5, 3), h(false, 10, 7))
		want := impl.NetOut{A: full, B: foundWith(finder, impl.Fraud{A: h(false, 10, 7), B: h(true, 10, 4)}), At: 8}
		if who == byB {
			want.A, want.B = want.B, want.A
		}
		netRuns(t, strconv.Itoa(who)+" is full", fork, script, want)
	}
}

// One that has found a fraud ahead tells what it shares, and hears what changes nothing.
func TestNetMeetBehindAFraud(t *testing.T) {
	const fork = 2
	h := func(other bool, size int, key int, time int) impl.Head { return signedBy(fork, other, size, key, time) }
	for who := range 2 {
		ahead := []int64{hearing(who, false, 6, 0), hearing(who, true, 6, 1), hearing(1-who, true, 9, 2)}
		known := h(false, 6, 0, 0)
		found := foundWith(waitingFor(known), impl.Fraud{A: known, B: h(true, 6, 1, 1)})
		other := waitingFor(h(true, 9, 2, 2))
		ordered := func(one impl.Watch, two impl.Watch) impl.NetOut {
			if who == byB {
				one, two = two, one
			}
			return impl.NetOut{A: one, B: two, At: 1}
		}
		netRuns(t, "found", fork, ahead, ordered(found, other))
		other = waitingFor(known, h(true, 9, 2, 2))
		netRuns(t, "met", fork, append(slices.Clone(ahead), meeting), ordered(found, other))
		both := append(slices.Clone(ahead), hearing(1-who, false, 9, 3), meeting, meeting)
		other = foundWith(waitingFor(h(true, 9, 2, 2)), impl.Fraud{A: h(true, 9, 2, 2), B: h(false, 9, 3, 3)})
		netRuns(t, "both found ahead", fork, both, ordered(found, other))
	}
}

// Each kind of fraud that one alone can find, by Heads of both branches.
func TestNetHearsAFraud(t *testing.T) {
	const fork = 4
	h := func(other bool, size int, time int) impl.Head { return signedBy(fork, other, size, time%4, time) }
	for who := range 2 {
		told := func(what string, script []int64, w impl.Watch, at int64) {
			t.Helper()
			want := impl.NetOut{A: w, B: freshWatch(), At: at}
			if who == byB {
				want.A, want.B = want.B, want.A
			}
			netRuns(t, what, fork, script, want)
		}
		for _, first := range []bool{false, true} {
			read := []int64{hearing(who, first, 8, 0), fetching(who, first)}
			for size := 0; size <= 8; size++ {
				script := append(slices.Clone(read), hearing(who, !first, size, 2))
				w, at := readBy(fork, first, h(first, 8, 0)), int64(2)
				switch {
				case size <= fork:
					at = -1
				case size < 8:
					w = foundWith(w, impl.Fraud{A: h(!first, size, 2), B: w.Head, Entries: w.Entries})
				default:
					w = foundWith(w, impl.Fraud{A: w.Head, B: h(!first, size, 2)})
				}
				told("read eight, and heard of "+strconv.Itoa(size), script, w, at)
			}
			for size := 1; size <= impl.MaxFork; size++ {
				w, at := waitingFor(h(first, size, 0)), int64(-1)
				if size > fork {
					w, at = foundWith(w, impl.Fraud{A: w.Pool[0], B: h(!first, size, 1)}), 1
				}
				told("heard twice of "+strconv.Itoa(size), []int64{hearing(who, first, size, 0), hearing(who, !first, size, 1)}, w, at)
			}
		}
	}
}

// At is the first event that finds one, whoever does; one more changes nothing of it. No event finds one alone.
func TestNetAt(t *testing.T) {
	at := func(what string, script []int64, want int64) {
		t.Helper()
		netRuns(t, what, 3, script, netByHand(3, script))
		numberSame(t, what, impl.NetRun(3, script).At, want)
	}
	x, y := hearing(byA, false, 4, 0), hearing(byA, true, 4, 0)
	p, q := hearing(byB, false, 9, 0), hearing(byB, true, 9, 0)
	for it := range int64(5 * allHears) {
		numberSame(t, "of one event", impl.NetRun(0, []int64{it}).At, -1)
	}
	at("the second one, of two", []int64{x, y}, 1)
	at("the second one, and more behind it", []int64{x, y, x, y, meeting, p, q, meeting}, 1)
	at("B ahead of A", []int64{p, x, q, y, meeting}, 2)
	at("A ahead of B", []int64{p, x, y, q, meeting}, 2)
	at("below 0 are counted", []int64{-1, x, -5, math.MinInt64, y, meeting}, 4)
	at("at a meet", []int64{x, hearing(byB, true, 4, 0), fetching(byA, true), meeting, meeting, y}, 3)
	at("none", []int64{x, q, x, q, meeting, fetching(byA, false), meeting}, -1)
	last := slices.Repeat([]int64{x}, impl.MaxList-1)
	at("none of many", last, -1)
	at("the last of MaxList", append(slices.Clone(last), y), impl.MaxList-1)
	at("the second of MaxList", append([]int64{x, y}, last[:impl.MaxList-2]...), 1)
	boolSame(t, "one more", impl.NetRun(3, append(slices.Clone(last), y, y)).Code == impl.ErrSize, true)
}

func TestNetOfWhatIsNotRight(t *testing.T) {
	refused := func(what string, fork int64, script []int64, code int64) {
		t.Helper()
		netSame(t, what, impl.NetRun(fork, script), impl.NetOut{Code: code})
	}
	good := []int64{hearing(byA, false, 4, 0), hearing(byB, true, 4, 0), fetching(byA, false), meeting}
	most := slices.Repeat(good, impl.MaxList/len(good))
	boolSame(t, "MaxList", len(most) == impl.MaxList, true)
	for _, fork := range wrongForks() {
		for _, script := range [][]int64{nil, {}, {-1}, good, most} {
			refused("the fork "+strconv.FormatInt(fork, 10), fork, script, impl.ErrForm)
		}
	}
	for _, fork := range append(wrongForks(), 0, 1, 11, 12) {
		for _, long := range [][]int64{append(slices.Clone(most), 0), append(slices.Clone(most), -1), make([]int64, 5000)} {
			refused("too long, of the fork "+strconv.FormatInt(fork, 10), fork, long, impl.ErrSize)
		}
	}
	for _, fork := range []int{0, 1, 3, 4, 11, 12} {
		netRuns(t, "MaxList events", fork, most, netByHand(int64(fork), most))
	}
}

// Each fork there is, of two who read their own branch up to the end, and meet.
func TestNetOfEachFork(t *testing.T) {
	for fork := 0; fork <= impl.MaxFork; fork++ {
		h := func(other bool, time int) impl.Head { return signedBy(fork, other, 12, time, time) }
		script := []int64{hearing(byA, false, 12, 0), hearing(byB, true, 12, 1), fetching(byA, false), fetching(byB, true), meeting}
		one, two := readBy(fork, false, h(false, 0)), readBy(fork, true, h(true, 1))
		netRuns(t, "ahead of the meet, of "+strconv.Itoa(fork), fork, script[:4], clean(one, two))
		want := clean(one, two)
		if fork < impl.MaxFork {
			want.A = foundWith(one, impl.Fraud{A: one.Head, B: two.Head})
			want.B = foundWith(two, impl.Fraud{A: two.Head, B: one.Head})
			want.At = 4
		}
		netRuns(t, "of "+strconv.Itoa(fork), fork, script, want)
	}
}

// randomScript has a few Sizes alone, so that Heads of like ones come together, and some events that do nothing.
func randomScript(r *rand.Rand, length int) []int64 {
	var script []int64
	sizes := []int{r.Intn(13), r.Intn(13), r.Intn(13), r.Intn(13), r.Intn(13), r.Intn(13)}
	for range length {
		who, other := r.Intn(2), r.Intn(2) == 0
		switch r.Intn(10) {
		case 0, 1, 2, 3:
			script = append(script, hearing(who, other, sizes[r.Intn(len(sizes))], r.Intn(4)))
		case 4, 5, 6, 7:
			script = append(script, fetching(who, other))
		case 8:
			script = append(script, meeting+5*r.Int63n(1000))
		default:
			script = append(script, r.Int63()-r.Int63())
		}
	}
	return script
}

func TestNetOfAnyScript(t *testing.T) {
	r := rand.New(rand.NewSource(seed))
	found := map[string]int{}
	for range 250 {
		fork := r.Int63n(impl.MaxFork + 1)
		script := randomScript(r, r.Intn(30))
		want := netByHand(fork, script)
		netRuns(t, "any", int(fork), script, want)
		for who, w := range []impl.Watch{want.A, want.B} {
			switch {
			case !w.Found:
				found["none "+strconv.Itoa(who)]++
			case len(w.Fraud.Entries) > 0:
				found["of fewer "+strconv.Itoa(who)]++
			case headEqual(w.Fraud.A, w.Head):
				found["of as many "+strconv.Itoa(who)]++
			default:
				found["of the Pool "+strconv.Itoa(who)]++
			}
		}
	}
	boolSame(t, "each kind was found by each: "+strconv.Itoa(len(found)), len(found) == 8, true)
	for what, times := range found {
		boolSame(t, what+" is there often", times > 3, true)
	}
	for _, fork := range []int64{0, 6, 12} {
		script := randomScript(r, impl.MaxList)
		netRuns(t, "MaxList of any", int(fork), script, netByHand(fork, script))
	}
}

// Promise 10, the first half: whatever the branch that is named, with the fork MaxFork there is but one.
func TestLogThatDoesNotForkIsNotFoundOut(t *testing.T) {
	r := rand.New(rand.NewSource(seed + 1))
	much := 0
	for range 60 {
		out := impl.NetRun(impl.MaxFork, randomScript(r, 60))
		boolSame(t, "clean", out.Code == impl.OK && out.At == -1 && !out.A.Found && !out.B.Found, true)
		much = max(much, len(out.A.Entries), len(out.B.Entries))
	}
	boolSame(t, "much was read", much >= 10, true)
}

// A log that forks is not found out either as long as nobody hears of what stands behind the fork, or of two branches.
func TestLogWhoseForkIsNotHeardOfIsNotFoundOut(t *testing.T) {
	r := rand.New(rand.NewSource(seed + 2))
	for range 40 {
		fork := r.Intn(impl.MaxFork)
		other := r.Intn(2) == 0
		var ahead, along []int64
		for range 20 {
			who := r.Intn(2)
			ahead = append(ahead, hearing(who, r.Intn(2) == 0, r.Intn(fork+1), r.Intn(4)), fetching(r.Intn(2), r.Intn(2) == 0), meeting)
			along = append(along, hearing(who, other, r.Intn(13), r.Intn(4)), fetching(r.Intn(2), r.Intn(2) == 0), meeting)
		}
		for _, script := range [][]int64{ahead, along} {
			out := impl.NetRun(int64(fork), script)
			boolSame(t, "clean", out.At == -1 && !out.A.Found && !out.B.Found, true)
		}
	}
}

// goesApart asks whether what both have read is of unlike trees, up to the lesser of both.
func goesApart(one []string, two []string) bool {
	size := min(len(one), len(two))
	return treeByCut(one[:size]) != treeByCut(two[:size])
}

// Promise 10, the second half, of all kinds of what two can have read.
func TestWhatGoesApartIsFoundTheFirstTimeTheyMeet(t *testing.T) {
	sizes := []int{1, 2, 3, 5, 6, 8, 11, 12}
	for _, fork := range []int{0, 1, 2, 5, 11, 12} {
		for _, one := range sizes {
			for _, two := range sizes {
				other := (one+two)%3 == 0
				script := []int64{meeting, hearing(byA, other, one, 0), hearing(byB, !other, two, 1), fetching(byB, !other), fetching(byA, other)}
				before := impl.NetRun(int64(fork), script)
				boolSame(t, "not found yet", before.At == -1 && len(before.A.Entries) == one && len(before.B.Entries) == two, true)
				unlike := goesApart(before.A.Entries, before.B.Entries)
				boolSame(t, "unlike trees", unlike, min(one, two) > fork)
				after := impl.NetRun(int64(fork), append(script, meeting))
				what := "fork " + strconv.Itoa(fork) + ", A read " + strconv.Itoa(one) + ", B " + strconv.Itoa(two)
				boolSame(t, what+": A found it", after.A.Found, unlike && one >= two)
				boolSame(t, what+": B found it", after.B.Found, unlike && two >= one)
				boolSame(t, what+": At", after.At == 5, unlike)
			}
		}
	}
}

// partingScript has each hear and fetch mostly of its own branch, so that what both read goes apart.
func partingScript(r *rand.Rand, length int) []int64 {
	script := []int64{meeting}
	for range length {
		who := r.Intn(2)
		other := (who == byB) == (r.Intn(12) > 0)
		script = append(script, hearing(who, other, r.Intn(13), r.Intn(4)), fetching(who, other))
	}
	return script
}

// The same behind any script: at the first meet behind which what both read goes apart.
func TestWhatGoesApartIsFoundBehindAnyScript(t *testing.T) {
	r := rand.New(rand.NewSource(seed + 3))
	met := 0
	for range 150 {
		fork := r.Int63n(8)
		script := partingScript(r, 2+r.Intn(6))
		before := impl.NetRun(fork, script)
		if before.At >= 0 || !goesApart(before.A.Entries, before.B.Entries) {
			continue
		}
		met++
		after := impl.NetRun(fork, append(script, meeting))
		boolSame(t, "found", after.At == int64(len(script)) && (after.A.Found || after.B.Found), true)
	}
	boolSame(t, "it went apart often: "+strconv.Itoa(met), met > 20, true)
}

func TestNetsShareNothing(t *testing.T) {
	r := rand.New(rand.NewSource(seed + 4))
	for at := range 40 {
		script := append(make([]int64, 0, 40), randomScript(r, 30)...)
		fork := int64(at % 13)
		one, two := impl.NetRun(fork, script), impl.NetRun(fork, script)
		netSame(t, "one script twice", one, two)
		apart(t, "A", one.A, one.B, two.A, two.B)
		apart(t, "B", one.B, one.A, two.A, two.B)
		for _, it := range script[len(script):cap(script)] {
			numberSame(t, "the room behind the script", it, 0)
		}
		spoil(one.A)
		spoil(one.B)
		netSame(t, "behind a change of an answer", impl.NetRun(fork, script), two)
	}
}

// spoil writes over all lists of an answer.
func spoil(w impl.Watch) {
	for _, l := range listsOf(w) {
		for at := range l {
			l[at] = "spoilt"
		}
	}
	for at := range w.Pool {
		w.Pool[at] = impl.Head{}
	}
}
