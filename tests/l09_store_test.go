package tests

import (
	"encoding/binary"
	"hash/crc32"
	"math"
	"math/rand"
	"slices"
	"strconv"
	"strings"
	"testing"
	"unsafe"

	"loop.example/g00390/impl"
)

// What notes come to is held against ones that are laid and gone through by hand, with Go's own CRC and numbers.

func textByHand(t string) string {
	return numByVarint(int64(len(t))) + t
}

// sealedRecord is sealed as a record is, be the body that of one or not.
func sealedRecord(body string) string {
	return textByHand(body + string(binary.LittleEndian.AppendUint32(nil, crc32.ChecksumIEEE([]byte(body)))))
}

func headBody(h impl.Head) string {
	return "H" + (&spelling{longer: -1}).head(h, "")
}

func fetchBody(entries []string) string {
	return "F" + numByVarint(int64(len(entries))) + (&spelling{longer: -1}).texts(entries)
}

// noting is what a watcher is told, and what is noted of it: a Head, or entries.
type noting struct {
	fetch   bool
	head    impl.Head
	entries []string
}

func ofHead(h impl.Head) noting {
	return noting{head: h}
}

func ofFetch(entries []string) noting {
	return noting{fetch: true, entries: entries}
}

func (n noting) record() string {
	if n.fetch {
		return sealedRecord(fetchBody(n.entries))
	}
	return sealedRecord(headBody(n.head))
}

func (n noting) noted(notes impl.Notes, log string, key string) impl.NotesOut {
	if n.fetch {
		return impl.NoteFetch(notes, log, key, n.entries)
	}
	return impl.NoteHead(notes, log, key, n.head)
}

func (n noting) told(w impl.Watch) impl.WatchOut {
	if n.fetch {
		return impl.Fetch(w, int64(len(w.Entries)), n.entries)
	}
	return impl.Hear(w, n.head)
}

func (n noting) toldByHand(w impl.Watch) impl.WatchOut {
	if n.fetch {
		return fetchByHand(w, int64(len(w.Entries)), n.entries)
	}
	return hearByHand(w, n.head)
}

func rowOf(all ...noting) string {
	row := ""
	for _, one := range all {
		row += one.record()
	}
	return row
}

// recordByHand answers how long the record is that a text begins with: 0, if that is none.
func recordByHand(text string) (noting, int) {
	d := decoding{rest: []byte(text)}
	sealed := d.text()
	if d.bad || len(sealed) < 5 {
		return noting{}, 0
	}
	body := decoding{rest: []byte(sealed[1 : len(sealed)-4])}
	one := noting{fetch: sealed[0] == 70}
	if one.fetch {
		one.entries = body.texts(body.num())
	} else {
		one.head = body.head()
	}
	again := one.record()
	if body.bad || !strings.HasPrefix(text, again) {
		return noting{}, 0
	}
	return one, len(again)
}

func stateByHand(log string, key string, text string) impl.StateOut {
	if len(log) > 20000 || len(key) > 20000 || len(text) > 20000 {
		return impl.StateOut{Code: impl.ErrSize}
	}
	if !nameForm.MatchString(log) || len(key) != 32 {
		return impl.StateOut{Code: impl.ErrForm}
	}
	out := impl.StateOut{Watch: impl.Watch{Log: log, Key: key}}
	for {
		one, length := recordByHand(text[out.At:])
		told := one.toldByHand(out.Watch)
		if length == 0 || told.Code != impl.OK {
			return out
		}
		out.Watch = told.Watch
		out.At += int64(length)
	}
}

func syncedByHand(n impl.Notes) bool {
	return n.Synced >= 0 && n.Synced <= int64(len(n.Log))
}

func notesRightByHand(n impl.Notes, log string, key string) bool {
	state := stateByHand(log, key, n.Log)
	return state.Code == impl.OK && state.At == int64(len(n.Log)) && syncedByHand(n)
}

func notedByHand(n impl.Notes, log string, key string, one noting) impl.NotesOut {
	if len(log) > 20000 || len(key) > 20000 || len(one.entries) > 400 {
		return impl.NotesOut{Code: impl.ErrSize}
	}
	if !notesRightByHand(n, log, key) {
		return impl.NotesOut{Code: impl.ErrForm}
	}
	if code := one.toldByHand(stateByHand(log, key, n.Log).Watch).Code; code != impl.OK {
		return impl.NotesOut{Code: code}
	}
	n.Log += one.record()
	if len(n.Log) > 20000 {
		return impl.NotesOut{Code: impl.ErrFull}
	}
	return impl.NotesOut{Notes: n}
}

func crashedByHand(n impl.Notes, keep int64) impl.Notes {
	if !syncedByHand(n) {
		return n
	}
	end := int64(len(n.Log))
	if keep < end-n.Synced {
		end = n.Synced + max(0, keep)
	}
	return impl.Notes{Log: n.Log[:end], Synced: end}
}

func recoveredByHand(n impl.Notes, log string, key string) impl.Notes {
	if len(log) > 20000 || len(key) > 20000 {
		return impl.Notes{}
	}
	state := stateByHand(log, key, n.Log)
	if state.Code != impl.OK {
		return n
	}
	return impl.Notes{Log: n.Log[:state.At], Synced: state.At}
}

func notesSame(t *testing.T, what string, got impl.Notes, want impl.Notes) {
	t.Helper()
	if got != want {
		t.Errorf("%s: got %d bytes, Synced %d, want %d bytes, Synced %d, alike: %t", what,
			len(got.Log), got.Synced, len(want.Log), want.Synced, got.Log == want.Log)
	}
}

func notesOutSame(t *testing.T, what string, got impl.NotesOut, want impl.NotesOut) {
	t.Helper()
	numberSame(t, what+": Code", got.Code, want.Code)
	notesSame(t, what, got.Notes, want.Notes)
}

func stateSame(t *testing.T, what string, got impl.StateOut, want impl.StateOut) {
	t.Helper()
	numberSame(t, what+": Code", got.Code, want.Code)
	numberSame(t, what+": At", got.At, want.At)
	watchSame(t, what, got.Watch, want.Watch)
}

// logKey is the Key under which what the seed signs is good.
func logKey() string {
	return keyRootBySha("seed")
}

// endsAt asks all that goes through notes whether just the first so many bytes of a text are records, that come to w.
func endsAt(t *testing.T, what string, text string, at int, w impl.Watch) {
	t.Helper()
	key, whole := logKey(), at == len(text)
	good := ofHead(headOf(numbered(64), int(max(1, w.Head.Size))))
	n := impl.Notes{Log: text, Synced: int64(len(text) / 2)}
	stateSame(t, what, impl.StateOf("log", key, text), impl.StateOut{Watch: w, At: int64(at)})
	boolSame(t, what+": right", impl.NotesRight(n, "log", key), whole)
	want := impl.NotesOut{Code: impl.ErrForm}
	if whole {
		want = impl.NotesOut{Notes: impl.Notes{Log: text + good.record(), Synced: n.Synced}}
	}
	notesOutSame(t, what+": noted", good.noted(n, "log", key), want)
	recovered := impl.NotesRecover(n, "log", key)
	notesSame(t, what+": recovered", recovered, impl.Notes{Log: text[:at], Synced: int64(at)})
	boolSame(t, what+": recovered is right", impl.NotesRight(recovered, "log", key), true)
	notesSame(t, what+": recovered twice", impl.NotesRecover(recovered, "log", key), recovered)
}

// story is told to one watcher, up to a fraud and on; the watches are those ahead of all, and behind each.
func story() ([]noting, []impl.Watch) {
	row := numbered(64)
	h := func(size int) noting { return ofHead(headOf(row, size)) }
	rewritten := headOf(other(1), 4)
	found := foundWith(watchOf(5, 9), impl.Fraud{A: rewritten, B: headOf(row, 5), Entries: row[:5]})
	all := []noting{
		h(5), h(3), ofFetch(row[:3]), ofHead(headByHand("seed", 0, "log", row[:5], 77)), h(2), h(9),
		ofFetch(row[3:5]), h(0), ofHead(rewritten), h(7), ofHead(headOf(other(0), 3)),
	}
	return all, []impl.Watch{
		watchOf(0), watchOf(0, 5), watchOf(0, 3, 5), watchOf(3, 5), watchOf(3, 5), watchOf(3, 5), watchOf(3, 5, 9),
		watchOf(5, 9), watchOf(5, 9), found, found, found,
	}
}

// endsOf are the places behind each record, the first one ahead of all.
func endsOf(all []noting) []int {
	ends := []int{0}
	for at := range all {
		ends = append(ends, len(rowOf(all[:at+1]...)))
	}
	return ends
}

func TestKnownRecords(t *testing.T) {
	key := impl.KeyRoot("seed")
	l := []string{"a", "", "bc"}
	h := headByHand("seed", 2, "log", l, 7)
	n := impl.NoteHead(impl.Notes{}, "log", key, h)
	bytesSame(t, "a Head", n.Notes.Log, sealedRecord("H"+textByHand(headTextByHand(h))+"\x04"+
		"\x40"+strings.Join(h.Sig.Ends, "\x40")+"\x40"+strings.Join(h.Sig.Path, "\x40")))
	f := impl.NoteFetch(n.Notes, "log", key, l)
	hexSame(t, "entries", f.Notes.Log[len(n.Notes.Log):], "18"+"46"+"06"+"0261"+"00"+"046263"+knownSum)
	hexSame(t, "both", shaOf(f.Notes.Log), knownNotes)
	notesSame(t, "nothing is synced", f.Notes, impl.Notes{Log: n.Notes.Log + ofFetch(l).record()})
	stateSame(t, "both", impl.StateOf("log", key, f.Notes.Log), impl.StateOut{
		Watch: impl.Watch{Log: "log", Key: key, Entries: l, Head: h}, At: int64(len(f.Notes.Log)),
	})
}

// The CRC of the entries' record, and the digest of both records, as another program has them.
const (
	knownSum   = "d44fe384"
	knownNotes = "76e0f4b02a4267dd9ceada183100055b8678638fda79da50806ddd97d8d0de2c"
)

// What is noted step by step, and gone through behind each, is what the watcher comes to.
func TestNotesGoOn(t *testing.T) {
	key := impl.KeyRoot("seed")
	all, watches := story()
	for _, synced := range []bool{false, true} {
		n := impl.Notes{}
		for at, one := range all {
			before := n
			out := one.noted(n, "log", key)
			what := strconv.Itoa(at)
			want := impl.Notes{Log: rowOf(all[:at+1]...), Synced: n.Synced}
			notesOutSame(t, what, out, impl.NotesOut{Notes: want})
			notesSame(t, what+": what was handed in", n, before)
			n = out.Notes
			endsAt(t, what, n.Log, len(n.Log), watches[at+1])
			told := one.told(watches[at])
			watchSame(t, what+": as if it were told", impl.StateOf("log", key, n.Log).Watch, told.Watch)
			if synced {
				n = impl.NotesSync(n)
				notesSame(t, what+": synced", n, impl.Notes{Log: want.Log, Synced: int64(len(want.Log))})
			}
		}
		found := watches[len(all)]
		boolSame(t, "a fraud was found", found.Found, true)
		endsAt(t, "entries behind a fraud", n.Log+ofFetch(numbered(9)[5:]).record()+all[0].record(), len(n.Log), found)
		notesOutSame(t, "nothing is fetched then", impl.NoteFetch(n, "log", key, numbered(9)[5:]), impl.NotesOut{Code: impl.ErrState})
	}
}

// At is behind the last record that is whole; of what is cut off nothing is told.
func TestNotesCutOffAtAnyPlace(t *testing.T) {
	all, watches := story()
	ends := endsOf(all[:4])
	text := rowOf(all[:4]...)
	for cut := range len(text) + 1 {
		at := len(ends) - 1
		for ends[at] > cut {
			at--
		}
		endsAt(t, "cut at "+strconv.Itoa(cut), text[:cut], ends[at], watches[at])
	}
	row := rowOf(all...)
	for at, end := range endsOf(all) {
		endsAt(t, "at an end", row[:end], end, watches[at])
		for _, more := range []int{1, 2, 3, 12} {
			if end < len(row) {
				endsAt(t, "behind an end", row[:end+more], end, watches[at])
			}
		}
		for _, less := range []int{1, 4, 5} {
			if end > 0 {
				endsAt(t, "ahead of an end", row[:end-less], endsOf(all)[at-1], watches[at-1])
			}
		}
	}
}

// noRecords may not stand behind a watcher that waits for three numbered entries, and five.
func noRecords() map[string]string {
	row := numbered(64)
	head, entries := headBody(headOf(row, 4)), fetchBody(row[:3])
	length := numByVarint(int64(len(head) + 4))
	longer := []byte(length)
	longer[len(longer)-1] |= 128
	l := map[string]string{
		"an empty text":              textByHand(""),
		"a text without its seal":    textByHand(head),
		"nothing, sealed":            sealedRecord(""),
		"a byte 72 alone":            sealedRecord("H"),
		"a byte 70 alone":            sealedRecord("F"),
		"a Head and a byte":          sealedRecord(head + "\x00"),
		"entries and a byte":         sealedRecord(entries + "\x00"),
		"two Heads":                  sealedRecord(head + head[1:]),
		"a byte behind its HeadText": sealedRecord("H" + (&spelling{longer: -1}).head(headOf(row, 4), "\x00")),
		"no entries":                 sealedRecord(fetchBody(nil)),
		"a length alone":             numByVarint(300),
		"a length below 0":           numByVarint(-1),
		"a length above MaxBytes":    numByVarint(impl.MaxBytes+1) + strings.Repeat("x", 999),
		"a longer length":            string(longer) + "\x00" + strings.TrimPrefix(sealedRecord(head), length),
		"a length of ten bytes":      strings.Repeat("\xff", 9) + "\x01",
		"a length of eleven bytes":   strings.Repeat("\x80", 10) + "\x00",
	}
	for _, b := range []string{"\x00", "G", "I", "h", "f", "E", "\xc8", "\xff"} {
		l["a Head behind the byte "+b] = sealedRecord(b + head[1:])
		l["entries behind the byte "+b] = sealedRecord(b + entries[1:])
	}
	for b := range 256 {
		if b != 72 && b != 70 {
			l["the byte "+strconv.Itoa(b)] = sealedRecord(string([]byte{byte(b)}))
		}
	}
	for _, count := range []int64{0, 1, 2, 4, 5, 64, 65, 400, 401, -1, -3, 1 << 32, 1<<32 + 3, math.MaxInt64, math.MinInt64} {
		l["three entries told to be "+strconv.FormatInt(count, 10)] = sealedRecord("F" + numByVarint(count) + (&spelling{longer: -1}).texts(row[:3]))
	}
	for longer := range 14 {
		l["a Head with a longer number, "+strconv.Itoa(longer)] = sealedRecord("H" + (&spelling{longer: longer}).head(headOf(row, 4), ""))
	}
	for longer := range 4 {
		s := &spelling{longer: longer}
		l["entries with a longer number, "+strconv.Itoa(longer)] = sealedRecord("F" + s.num(3) + s.texts(row[:3]))
	}
	return l
}

// refusedRecords are records of which the same watcher tells a code.
func refusedRecords() map[string]noting {
	row := numbered(64)
	l := map[string]noting{
		"two entries": ofFetch(row[:2]), "four entries": ofFetch(row[:4]), "five entries": ofFetch(row[:5]), "one entry": ofFetch(row[:1]),
		"three entries from elsewhere": ofFetch(row[1:4]), "three empty ones": ofFetch(make([]string, 3)),
		"more than may be, of no bytes": ofFetch(make([]string, 19000)),
	}
	for what, h := range badHeads(4) {
		if headRightByHand(h) {
			l["a Head "+what] = ofHead(h)
		}
	}
	for at := range 3 {
		l["another entry at "+strconv.Itoa(at)] = ofFetch(other(at)[:3])
	}
	for what, wrong := range wrongEntries() {
		if len(fetchBody(wrong)) < 19000 {
			l["entries: "+what] = ofFetch(wrong)
		}
	}
	return l
}

func TestRecordsThatMayNotBe(t *testing.T) {
	all, watches := story()
	ahead, next := rowOf(all[:2]...), all[2].record()
	l := noRecords()
	for what, one := range refusedRecords() {
		l[what] = one.record()
	}
	for what, bad := range l {
		endsAt(t, what, bad, 0, watches[0])
		endsAt(t, what+", at the end", ahead+bad, len(ahead), watches[2])
		if len(ahead+bad+next) <= impl.MaxBytes {
			endsAt(t, what+", and more behind it", ahead+bad+next, len(ahead), watches[2])
		}
	}
	endsAt(t, "the next one in its place", ahead+next, len(ahead+next), watches[3])
}

// Whichever byte of a record is turned; sealed again it's a record, but one that tells a code, or none.
func TestRecordsWithABrokenByte(t *testing.T) {
	all, watches := story()
	row := numbered(64)
	ahead := rowOf(all[:2]...)
	for _, body := range []string{headBody(headOf(row, 4)), fetchBody(row[:3])} {
		good := sealedRecord(body)
		for at := range len(good) {
			for _, by := range []byte{1, 16, 128, 255} {
				broken := []byte(good)
				broken[at] ^= by
				stateSame(t, "broken at "+strconv.Itoa(at), impl.StateOf("log", logKey(), ahead+string(broken)+all[2].record()),
					impl.StateOut{Watch: watches[2], At: int64(len(ahead))})
			}
		}
		for at := range len(body) {
			broken := []byte(body)
			broken[at] ^= 4
			text := ahead + sealedRecord(string(broken)) + all[2].record()
			want := stateByHand("log", logKey(), text)
			numberSame(t, "broken by hand", want.At, int64(len(ahead)))
			stateSame(t, "sealed again, broken at "+strconv.Itoa(at), impl.StateOf("log", logKey(), text), want)
		}
		for at := range len(body) {
			text := ahead + sealedRecord(body[:at])
			stateSame(t, "sealed, cut off at "+strconv.Itoa(at), impl.StateOf("log", logKey(), text), impl.StateOut{Watch: watches[2], At: int64(len(ahead))})
		}
	}
}

// The limits of the texts, each looked for ahead of all else.
func TestStateOfLimits(t *testing.T) {
	key := logKey()
	most, more := strings.Repeat("\x00", impl.MaxBytes), strings.Repeat("\x00", impl.MaxBytes+1)
	refused := func(what string, got impl.StateOut, code int64) {
		t.Helper()
		stateSame(t, what, got, impl.StateOut{Code: code})
	}
	stateSame(t, "no bytes", impl.StateOf("log", key, ""), impl.StateOut{Watch: watchOf(0)})
	stateSame(t, "MaxBytes", impl.StateOf("log", key, most), impl.StateOut{Watch: watchOf(0)})
	stateSame(t, "one record of MaxBytes", impl.StateOf("log", key, textByHand(most)[:impl.MaxBytes]), impl.StateOut{Watch: watchOf(0)})
	refused("one more", impl.StateOf("log", key, more), impl.ErrSize)
	refused("a Log of one more", impl.StateOf(more, key, ""), impl.ErrSize)
	refused("a Key of one more", impl.StateOf("log", more, ""), impl.ErrSize)
	refused("one more, of no name", impl.StateOf("", "", more), impl.ErrSize)
	refused("a Log of one more, no Key", impl.StateOf(more, "", ""), impl.ErrSize)
	refused("a Key of one more, no Log", impl.StateOf("", more, ""), impl.ErrSize)
	refused("MaxBytes of each", impl.StateOf(most, most, most), impl.ErrForm)
	for _, log := range rightNames() {
		text := ofHead(headByHand("seed", 1, log, numbered(3), 4)).record()
		w := impl.Watch{Log: log, Key: key, Pool: []impl.Head{headByHand("seed", 1, log, numbered(3), 4)}}
		stateSame(t, "of "+log, impl.StateOf(log, key, text), impl.StateOut{Watch: w, At: int64(len(text))})
		boolSame(t, "of "+log, impl.NotesRight(impl.Notes{Log: text, Synced: 1}, log, key), true)
	}
}

// wrongOwners are logs that are no names, and keys that are none, with the code that they are refused with.
func wrongOwners() map[[2]string]int64 {
	l := map[[2]string]int64{}
	for _, log := range wrongNames() {
		l[[2]string{log, logKey()}] = impl.ErrForm
	}
	for _, key := range otherLengths(logKey()) {
		l[[2]string{"log", key}] = impl.ErrForm
		l[[2]string{"", key}] = impl.ErrForm
	}
	for owner := range l {
		if max(len(owner[0]), len(owner[1])) > impl.MaxBytes {
			l[owner] = impl.ErrSize
		}
	}
	return l
}

func TestNotesOfWrongOwners(t *testing.T) {
	all, _ := story()
	wrong := ofHead(impl.Head{})
	for owner, code := range wrongOwners() {
		log, key := owner[0], owner[1]
		what := "a log of " + strconv.Itoa(len(log)) + ", a key of " + strconv.Itoa(len(key))
		for _, n := range []impl.Notes{{}, {Log: rowOf(all[:3]...), Synced: 5}, {Log: "x"}, {Synced: -1}, {Log: strings.Repeat("x", impl.MaxBytes+1)}} {
			boolSame(t, what, impl.NotesRight(n, log, key), false)
			for _, one := range []noting{all[0], all[2], wrong, ofFetch(nil), ofFetch(make([]string, impl.MaxList))} {
				notesOutSame(t, what, one.noted(n, log, key), impl.NotesOut{Code: code})
			}
			notesOutSame(t, what, impl.NoteFetch(n, log, key, make([]string, impl.MaxList+1)), impl.NotesOut{Code: impl.ErrSize})
			want := n
			if code == impl.ErrSize {
				want = impl.Notes{}
			}
			notesSame(t, what+": recovered", impl.NotesRecover(n, log, key), want)
			if len(n.Log) <= impl.MaxBytes {
				stateSame(t, what, impl.StateOf(log, key, n.Log), impl.StateOut{Code: code})
			}
		}
	}
}

// Of another log, or under another Key, the first record already is no good; nothing is refused for that.
func TestNotesOfAnotherOwner(t *testing.T) {
	all, _ := story()
	text := rowOf(all[:3]...)
	for _, owner := range [][2]string{{"logs", logKey()}, {"lo", logKey()}, {"log", keyRootBySha("other")}, {"log", turned(logKey(), 0)}, {"log", strings.Repeat("\x00", 32)}} {
		log, key := owner[0], owner[1]
		n := impl.Notes{Log: text, Synced: 2}
		stateSame(t, log, impl.StateOf(log, key, text), impl.StateOut{Watch: impl.Watch{Log: log, Key: key}})
		boolSame(t, log, impl.NotesRight(n, log, key), false)
		notesOutSame(t, log, all[0].noted(n, log, key), impl.NotesOut{Code: impl.ErrForm})
		notesSame(t, log+": recovered", impl.NotesRecover(n, log, key), impl.Notes{})
		boolSame(t, "no notes are right", impl.NotesRight(impl.Notes{}, log, key), true)
		notesOutSame(t, log+": noted first", all[0].noted(impl.Notes{}, log, key), impl.NotesOut{Code: impl.ErrSum})
	}
}

func wrongSynced(length int) []int64 {
	return []int64{-1, -2, int64(length) + 1, int64(length) + 2, impl.MaxBytes + 1, 1 << 32, math.MinInt64, math.MaxInt64}
}

// Synced may be any place from 0 on, also within a record, and is as it was behind one that is noted.
func TestSynced(t *testing.T) {
	key := logKey()
	all, watches := story()
	for _, text := range []string{"", rowOf(all[:1]...), rowOf(all[:2]...)} {
		length := int64(len(text))
		for _, synced := range []int64{0, 1, length / 2, length - 1, length} {
			n := impl.Notes{Log: text, Synced: min(length, max(0, synced))}
			boolSame(t, "right", impl.NotesRight(n, "log", key), true)
			one := all[0]
			notesOutSame(t, "noted", one.noted(n, "log", key), impl.NotesOut{Notes: impl.Notes{Log: text + one.record(), Synced: n.Synced}})
		}
		for _, synced := range wrongSynced(len(text)) {
			n := impl.Notes{Log: text, Synced: synced}
			what := strconv.FormatInt(synced, 10) + " of " + strconv.Itoa(len(text))
			boolSame(t, what, impl.NotesRight(n, "log", key), false)
			for _, one := range []noting{all[0], all[2], ofHead(impl.Head{}), ofFetch(nil)} {
				notesOutSame(t, what, one.noted(n, "log", key), impl.NotesOut{Code: impl.ErrForm})
			}
			for _, keep := range keepsAround(len(text)) {
				notesSame(t, what+": crashed", impl.NotesCrash(n, keep), n)
			}
			whole := impl.Notes{Log: text, Synced: length}
			notesSame(t, what+": synced", impl.NotesSync(n), whole)
			notesSame(t, what+": recovered", impl.NotesRecover(n, "log", key), whole)
		}
	}
	stateSame(t, "what was synced is not asked for", impl.StateOf("log", key, rowOf(all[:2]...)), impl.StateOut{Watch: watches[2], At: int64(len(rowOf(all[:2]...)))})
}

// keepsAround are numbers of bytes that a crash may keep of so many behind Synced.
func keepsAround(behind int) []int64 {
	n := int64(behind)
	return []int64{math.MinInt64, math.MinInt64 + 1, -n, -1, 0, 1, 2, n / 2, n - 1, n, n + 1, 1 << 32, math.MaxInt64 - 1, math.MaxInt64}
}

// A crash does not ask what the bytes say, nor how many there are.
func TestNotesCrash(t *testing.T) {
	all, _ := story()
	r := rand.New(rand.NewSource(seed))
	for _, text := range []string{"", "x", "xy", rowOf(all[:2]...), randomText(r, impl.MaxBytes), randomText(r, impl.MaxBytes+1), randomText(r, 3*impl.MaxBytes)} {
		length := len(text)
		for _, synced := range []int{0, 1, 5, length / 2, length - 1, length} {
			n := impl.Notes{Log: text, Synced: int64(min(length, max(0, synced)))}
			behind := length - int(n.Synced)
			for _, keep := range keepsAround(behind) {
				end := int(n.Synced + min(max(0, keep), int64(behind)))
				got := impl.NotesCrash(n, keep)
				what := strconv.Itoa(length) + " bytes, " + strconv.FormatInt(n.Synced, 10) + " synced, " + strconv.FormatInt(keep, 10) + " kept"
				notesSame(t, what, got, impl.Notes{Log: text[:end], Synced: int64(end)})
				notesSame(t, what+", by hand", got, crashedByHand(n, keep))
				notesSame(t, what+", crashed again", impl.NotesCrash(got, keep), got)
			}
		}
	}
}

func TestNotesOfMoreThanMaxBytes(t *testing.T) {
	key := logKey()
	full, _ := filled(t, impl.MaxBytes, []string{"a"})
	known := ofHead(headOf(numbered(64), 1)).record()
	for _, text := range []string{full + "x", full + known, strings.Repeat("x", impl.MaxBytes+1), strings.Repeat("\x00", 3*impl.MaxBytes)} {
		for _, synced := range append(wrongSynced(len(text)), 0, 5, impl.MaxBytes, int64(len(text))) {
			n := impl.Notes{Log: text, Synced: synced}
			notesSame(t, "synced", impl.NotesSync(n), n)
			notesSame(t, "recovered", impl.NotesRecover(n, "log", key), n)
			notesSame(t, "crashed", impl.NotesCrash(n, 7), crashedByHand(n, 7))
			boolSame(t, "right", impl.NotesRight(n, "log", key), false)
			notesOutSame(t, "a Head", ofHead(headOf(numbered(3), 3)).noted(n, "log", key), impl.NotesOut{Code: impl.ErrForm})
			notesOutSame(t, "entries", ofFetch([]string{"a"}).noted(n, "log", key), impl.NotesOut{Code: impl.ErrForm})
		}
	}
	garbage := impl.Notes{Log: strings.Repeat("x", impl.MaxBytes), Synced: -7}
	notesSame(t, "MaxBytes, synced", impl.NotesSync(garbage), impl.Notes{Log: garbage.Log, Synced: impl.MaxBytes})
	notesSame(t, "MaxBytes, recovered", impl.NotesRecover(garbage, "log", key), impl.Notes{})
	cut := impl.NotesCrash(impl.Notes{Log: full + known, Synced: impl.MaxBytes - 2}, 2)
	notesSame(t, "cut to MaxBytes by a crash", cut, impl.Notes{Log: full, Synced: impl.MaxBytes})
	boolSame(t, "right again", impl.NotesRight(cut, "log", key), true)
}

// filled are notes of just so many bytes, by a watcher who has read forty entries, and waits for others behind them.
func filled(t *testing.T, size int, last []string) (string, impl.Watch) {
	t.Helper()
	entries := slices.Repeat([]string{"x"}, 40)
	again := len(ofHead(headByHand("seed", 0, "log", entries, 5)).record())
	rest := size - 3*again - len(ofFetch(entries).record())
	for at := range rest % again {
		entries[at%40] += "x"
	}
	h := headByHand("seed", 0, "log", entries, 5)
	next := headByHand("seed", 1, "log", append(slices.Clone(entries), last...), 6)
	text := rowOf(ofHead(h), ofFetch(entries), ofHead(next), ofHead(h)) + strings.Repeat(ofHead(h).record(), rest/again)
	if len(text) != size {
		t.Fatalf("filled notes: got %d bytes, want %d", len(text), size)
	}
	return text, impl.Watch{Log: "log", Key: logKey(), Entries: entries, Head: h, Pool: []impl.Head{next}}
}

// fills asks for the room that there is for one more record behind filled notes.
func fills(t *testing.T, text string, w impl.Watch, one noting) {
	t.Helper()
	key, row := logKey(), text+one.record()
	what := strconv.Itoa(len(row)) + " bytes"
	stateSame(t, what, impl.StateOf("log", key, text), impl.StateOut{Watch: w, At: int64(len(text))})
	for _, synced := range []int64{0, int64(len(text))} {
		n := impl.Notes{Log: text, Synced: synced}
		boolSame(t, what+": right", impl.NotesRight(n, "log", key), true)
		want := impl.NotesOut{Notes: impl.Notes{Log: row, Synced: synced}}
		if len(row) > impl.MaxBytes {
			want = impl.NotesOut{Code: impl.ErrFull}
		}
		out := one.noted(n, "log", key)
		notesOutSame(t, what, out, want)
		boolSame(t, what+": what is told is right", impl.NotesRight(out.Notes, "log", key), true)
	}
}

// A record may fill up MaxBytes to the last byte.
func TestFullNotes(t *testing.T) {
	last := []string{"one", "", "three"}
	entries, head := len(ofFetch(last).record()), len(ofHead(headOf(numbered(2), 2)).record())
	for _, size := range []int{impl.MaxBytes - 1, impl.MaxBytes, impl.MaxBytes + 1, impl.MaxBytes + 2} {
		text, w := filled(t, size-entries, last)
		fills(t, text, w, ofFetch(last))
		text, w = filled(t, size-head, last)
		fills(t, text, w, ofHead(w.Head))
		fills(t, text, w, ofHead(headByHand("seed", 3, "log", []string{"other"}, 5)))
	}
}

// What a watcher tells is named ahead of what is full, and a list that is too long ahead of all.
func TestNotesNameTheFirstFault(t *testing.T) {
	key, last := logKey(), []string{"one", "", "three"}
	text, w := filled(t, impl.MaxBytes, last)
	full := impl.Notes{Log: text, Synced: 3}
	stateSame(t, "full", impl.StateOf("log", key, text), impl.StateOut{Watch: w, At: impl.MaxBytes})
	boolSame(t, "full: right", impl.NotesRight(full, "log", key), true)
	fresh, waits := impl.Notes{}, impl.Notes{Log: rowOf(ofHead(headOf(numbered(3), 3)))}
	broken := impl.Notes{Log: text[:impl.MaxBytes-1], Synced: 3}
	most, more := make([]string, impl.MaxList), make([]string, impl.MaxList+1)
	long := []string{"one", "", strings.Repeat("x", impl.MaxEntry+1)}
	for what, c := range map[string]struct {
		one                        noting
		full, broken, fresh, waits int64
	}{
		"a known Head":     {ofHead(w.Head), impl.ErrFull, impl.ErrForm, impl.OK, impl.OK},
		"the zero Head":    {ofHead(impl.Head{}), impl.ErrSum, impl.ErrForm, impl.ErrSum, impl.ErrSum},
		"another seed's":   {ofHead(headByHand("other", 0, "log", last, 1)), impl.ErrSum, impl.ErrForm, impl.ErrSum, impl.ErrSum},
		"another log's":    {ofHead(headByHand("seed", 0, "logs", last, 1)), impl.ErrSum, impl.ErrForm, impl.ErrSum, impl.ErrSum},
		"its entries":      {ofFetch(last), impl.ErrFull, impl.ErrForm, impl.ErrState, impl.ErrSum},
		"other entries":    {ofFetch([]string{"one", "", "thre"}), impl.ErrSum, impl.ErrForm, impl.ErrState, impl.ErrSum},
		"three numbered":   {ofFetch(numbered(3)), impl.ErrSum, impl.ErrForm, impl.ErrState, impl.OK},
		"fewer":            {ofFetch(last[:2]), impl.ErrRange, impl.ErrForm, impl.ErrState, impl.ErrRange},
		"more":             {ofFetch(numbered(64)), impl.ErrRange, impl.ErrForm, impl.ErrState, impl.ErrRange},
		"no entries":       {ofFetch(nil), impl.ErrForm, impl.ErrForm, impl.ErrForm, impl.ErrForm},
		"an empty list":    {ofFetch([]string{}), impl.ErrForm, impl.ErrForm, impl.ErrForm, impl.ErrForm},
		"one too long":     {ofFetch(long), impl.ErrForm, impl.ErrForm, impl.ErrForm, impl.ErrForm},
		"one too many":     {ofFetch(most[:65]), impl.ErrForm, impl.ErrForm, impl.ErrForm, impl.ErrForm},
		"MaxList":          {ofFetch(most), impl.ErrForm, impl.ErrForm, impl.ErrForm, impl.ErrForm},
		"MaxList, and one": {ofFetch(more), impl.ErrSize, impl.ErrSize, impl.ErrSize, impl.ErrSize},
	} {
		for _, n := range []struct {
			notes impl.Notes
			code  int64
		}{{full, c.full}, {broken, c.broken}, {fresh, c.fresh}, {waits, c.waits}} {
			got := c.one.noted(n.notes, "log", key)
			numberSame(t, what, got.Code, n.code)
			notesOutSame(t, what+", by hand", got, notedByHand(n.notes, "log", key, c.one))
		}
	}
}

func TestNoteOfWrongHeads(t *testing.T) {
	all, _ := story()
	n := impl.Notes{Log: rowOf(all[:4]...), Synced: 1}
	wrong := impl.Notes{Log: n.Log + "x"}
	for _, size := range []int{0, 3, 4, 5, 64} {
		for what, h := range badHeads(size) {
			notesOutSame(t, what, impl.NoteHead(n, "log", logKey(), h), impl.NotesOut{Code: impl.ErrSum})
			notesOutSame(t, what+", wrong notes", impl.NoteHead(wrong, "log", logKey(), h), impl.NotesOut{Code: impl.ErrForm})
		}
	}
	for what, h := range wrongHeads(headOf(numbered(9), 9)) {
		notesOutSame(t, what, impl.NoteHead(n, "log", logKey(), h), impl.NotesOut{Code: impl.ErrSum})
	}
	for what, entries := range wrongEntries() {
		code := int64(impl.ErrForm)
		if len(entries) > impl.MaxList {
			code = impl.ErrSize
		}
		notesOutSame(t, what, impl.NoteFetch(n, "log", logKey(), entries), impl.NotesOut{Code: code})
	}
}

// A Head that is heard and changes nothing is noted all the same.
func TestNoteOfWhatIsKnown(t *testing.T) {
	key := logKey()
	row := numbered(64)
	for _, w := range []impl.Watch{watchOf(0), watchOf(3), watchOf(3, 5), watchOf(64)} {
		n := impl.Notes{}
		heads := w.Pool
		if w.Head.Size > 0 {
			n.Log = rowOf(ofHead(w.Head), ofFetch(w.Entries))
			heads = append([]impl.Head{w.Head}, heads...)
		}
		n.Log += rowOf(notingsOf(w.Pool)...)
		for size := range int(w.Head.Size) + 1 {
			heads = append(heads, headByHand("seed", size%4, "log", row[:size], 9))
		}
		for _, h := range heads {
			out := impl.NoteHead(n, "log", key, h)
			notesOutSame(t, "known", out, impl.NotesOut{Notes: impl.Notes{Log: n.Log + ofHead(h).record()}})
			watchSame(t, "nothing changes", impl.StateOf("log", key, out.Notes.Log).Watch, w)
		}
	}
}

func notingsOf(heads []impl.Head) []noting {
	var all []noting
	for _, h := range heads {
		all = append(all, ofHead(h))
	}
	return all
}

// Promise 12: at whatever byte a crash cuts, what comes back is what there was at a record, none of what was synced missing.
func TestCrashesAreFoundAgain(t *testing.T) {
	key := logKey()
	all, watches := story()
	text, ends := rowOf(all[:4]...), endsOf(all[:4])
	for _, synced := range []int{0, 1, ends[1] - 1, ends[1], ends[1] + 1, ends[2], ends[3] - 5, ends[3], ends[4]} {
		n := impl.Notes{Log: text, Synced: int64(synced)}
		for keep := -1; keep <= len(text)-synced+1; keep += 1 + max(0, keep)%3 {
			end := min(len(text), synced+max(0, keep))
			at := len(ends) - 1
			for ends[at] > end {
				at--
			}
			what := strconv.Itoa(synced) + " synced, " + strconv.Itoa(keep) + " kept"
			crashed := impl.NotesCrash(n, int64(keep))
			notesSame(t, what, crashed, impl.Notes{Log: text[:end], Synced: int64(end)})
			found := impl.NotesRecover(crashed, "log", key)
			notesSame(t, what+": recovered", found, impl.Notes{Log: text[:ends[at]], Synced: int64(ends[at])})
			stateSame(t, what, impl.StateOf("log", key, found.Log), impl.StateOut{Watch: watches[at], At: int64(ends[at])})
			boolSame(t, what+": no synced record is lost", at == len(ends)-1 || ends[at+1] > synced, true)
		}
	}
	// Behind a crash it goes on as if what was lost had never been told.
	n := impl.NotesRecover(impl.NotesCrash(impl.Notes{Log: text, Synced: int64(ends[1])}, int64(ends[3]-ends[1]-1)), "log", key)
	for _, one := range all[2:] {
		n = one.noted(n, "log", key).Notes
	}
	watchSame(t, "told again", impl.StateOf("log", key, n.Log).Watch, watches[len(watches)-1])
}

// Promise 12, of anything that a watcher is told by logs that fork, or by others.
func TestWhatIsNotedIsTold(t *testing.T) {
	r := rand.New(rand.NewSource(seed + 5))
	l := forkedLogs(r, 8)
	key := logKey()
	codes, found := map[int64]int{}, 0
	for range 60 {
		n, w := impl.Notes{}, watchOf(0)
		states := []impl.StateOut{{Watch: w}}
		for range 14 {
			one := ofHead(l.head(r, r.Intn(8) > 0))
			if _, entries := l.entriesFor(r, w); r.Intn(2) == 0 {
				one = ofFetch(entries)
			}
			out, told := one.noted(n, "log", key), one.told(w)
			numberSame(t, "the code of what is told", out.Code, told.Code)
			notesOutSame(t, "by hand", out, notedByHand(n, "log", key, one))
			if codes[out.Code]++; out.Code != impl.OK {
				continue
			}
			n, w = out.Notes, told.Watch
			states = append(states, impl.StateOut{Watch: w, At: int64(len(n.Log))})
			stateSame(t, "as if it were told", impl.StateOf("log", key, n.Log), states[len(states)-1])
			if r.Intn(3) == 0 {
				n = impl.NotesSync(n)
			}
		}
		if w.Found {
			found++
		}
		keep := r.Int63n(int64(len(n.Log)) - n.Synced + 2)
		back := impl.NotesRecover(impl.NotesCrash(n, keep), "log", key)
		at := slices.IndexFunc(states, func(s impl.StateOut) bool { return s.At == int64(len(back.Log)) })
		boolSame(t, "at a record, behind what was synced", at >= 0 && back.Synced >= n.Synced && back.Synced == int64(len(back.Log)), true)
		stateSame(t, "what there was", impl.StateOf("log", key, back.Log), states[max(0, at)])
		boolSame(t, "as much as was kept", at == len(states)-1 || states[at+1].At > n.Synced+keep, true)
	}
	boolSame(t, "frauds were found: "+strconv.Itoa(found), found > 5, true)
	for _, code := range []int64{impl.OK, impl.ErrForm, impl.ErrSum, impl.ErrState, impl.ErrRange} {
		boolSame(t, "the code "+strconv.FormatInt(code, 10)+" was told", codes[code] > 5, true)
	}
}

// mangled is a row of records, some twice or not in order, with bytes changed, put in or left out.
func mangled(r *rand.Rand, all []noting) string {
	text := ""
	for at := range all {
		if r.Intn(12) == 0 {
			at = r.Intn(len(all))
		}
		text += all[at].record()
	}
	for range r.Intn(2) * r.Intn(3) {
		at := r.Intn(len(text))
		switch r.Intn(3) {
		case 0:
			text = text[:at] + randomText(r, 1) + text[at+1:]
		case 1:
			text = text[:at] + randomText(r, r.Intn(3)) + text[at:]
		case 2:
			text = text[:at] + text[min(len(text), at+1+r.Intn(9)):]
		}
	}
	return text
}

func TestNotesOfAnyText(t *testing.T) {
	r := rand.New(rand.NewSource(seed + 6))
	key := logKey()
	all, _ := story()
	whole := 0
	for at := range 400 {
		text := mangled(r, all)
		if at%10 == 0 {
			text = randomText(r, r.Intn(80))
		}
		n := impl.Notes{Log: text, Synced: r.Int63n(int64(len(text)) + 1)}
		stateSame(t, "any", impl.StateOf("log", key, text), stateByHand("log", key, text))
		right := impl.NotesRight(n, "log", key)
		boolSame(t, "any", right, notesRightByHand(n, "log", key))
		if right {
			whole++
		}
		notesSame(t, "any, recovered", impl.NotesRecover(n, "log", key), recoveredByHand(n, "log", key))
	}
	boolSame(t, "some were whole, some not: "+strconv.Itoa(whole), whole > 40 && whole < 360, true)
}

// apartTexts asks that no byte of one text stands where one of the other does.
func apartTexts(t *testing.T, what string, answer string, given string) {
	t.Helper()
	if answer == "" || given == "" {
		return
	}
	one, two := uintptr(unsafe.Pointer(unsafe.StringData(answer))), uintptr(unsafe.Pointer(unsafe.StringData(given)))
	if one < two+uintptr(len(given)) && two < one+uintptr(len(answer)) {
		t.Errorf("%s: shares memory with what was handed in", what)
	}
}

func TestNotesShareNothing(t *testing.T) {
	all, watches := story()
	log, key := strings.Repeat("log", 2)[:3], logKey()
	for at := range all {
		text := rowOf(all[:at]...)
		one, two := impl.StateOf(log, key, text), impl.StateOf(log, key, text)
		apart(t, "two states", one.Watch, two.Watch, impl.Watch{Log: log, Key: key, Entries: []string{text}})
		spoil(one.Watch)
		stateSame(t, "behind a change of an answer", impl.StateOf(log, key, text), impl.StateOut{Watch: watches[at], At: int64(len(text))})
		for _, s := range two.Watch.Entries {
			apartTexts(t, "entries", s, text)
		}
		given := all[at]
		given.head, given.entries = roomyHead(given.head), roomy(given.entries)
		for _, n := range []impl.Notes{{Log: text}, {Log: text, Synced: int64(len(text))}, {Log: text, Synced: -1}} {
			for _, answer := range []impl.Notes{
				given.noted(n, log, key).Notes, impl.NotesSync(n), impl.NotesCrash(n, 5), impl.NotesCrash(n, impl.MaxBytes),
				impl.NotesRecover(n, log, key), impl.NotesRecover(n, "", key),
			} {
				apartTexts(t, "notes", answer.Log, text)
			}
			notesSame(t, "what was handed in", n, impl.Notes{Log: rowOf(all[:at]...), Synced: n.Synced})
		}
		roomIsEmpty(t, "what was handed in", impl.Watch{Head: given.head, Entries: given.entries})
		headSame(t, "what was handed in", given.head, all[at].head)
		listSame(t, "what was handed in", given.entries, all[at].entries)
	}
	more := impl.Notes{Log: strings.Repeat("x", impl.MaxBytes+1)}
	for _, answer := range []impl.Notes{impl.NotesSync(more), impl.NotesCrash(more, 9), impl.NotesRecover(more, log, key)} {
		apartTexts(t, "more than MaxBytes", answer.Log, more.Log)
	}
}
