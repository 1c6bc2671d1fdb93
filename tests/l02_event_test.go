package tests

import (
	"encoding/binary"
	"hash/crc32"
	"math"
	"slices"
	"testing"

	"loop.example/g00683/impl"
)

// limits are the least and the greatest values of a kind's fields; of Text and Prev these are sizes.
type limits struct {
	kind             int64
	key, n           [2]int64
	textSize, behind [2]int
}

func kindLimits() []limits {
	return []limits{
		{1, [2]int64{0, 0}, [2]int64{0, 0}, [2]int{0, 0}, [2]int{0, 0}},
		{2, [2]int64{1, 6}, [2]int64{1, 4}, [2]int{0, 0}, [2]int{1, 4}},
		{3, [2]int64{1, 6}, [2]int64{0, 100}, [2]int{0, 0}, [2]int{1, 4}},
		{4, [2]int64{0, 0}, [2]int64{0, 0}, [2]int{0, 30}, [2]int{1, 4}},
		{5, [2]int64{0, 0}, [2]int64{1, 2}, [2]int{0, 0}, [2]int{1, 4}},
		{6, [2]int64{0, 0}, [2]int64{1, 3}, [2]int{0, 0}, [2]int{1, 4}},
		{7, [2]int64{0, 0}, [2]int64{0, 0}, [2]int{1, 30}, [2]int{1, 4}},
		{8, [2]int64{1, 1000000}, [2]int64{0, 0}, [2]int{0, 0}, [2]int{1, 4}},
	}
}

// leastEvent is the right event of a kind whose fields are as small as they may be; others may stand behind it.
func leastEvent(l limits) impl.Event {
	e := impl.Event{Id: 500, Room: 1, Author: 1, Kind: l.kind, Key: l.key[0], N: l.n[0], Text: letters(l.textSize[0])}
	e.Prev = firstIds(l.behind[0])
	return e
}

func greatestEvent(l limits) impl.Event {
	e := impl.Event{Id: impl.MaxTime, Room: 3, Author: 6, Kind: l.kind, Key: l.key[1], N: l.n[1], Text: letters(l.textSize[1])}
	if l.behind[1] > 0 {
		e.Prev = []int64{1, 70, 9000, impl.MaxTime - 1}
	}
	e.Time = impl.MaxTime
	return e
}

// firstIds are so many rising Ids, none for none.
func firstIds(many int) []int64 {
	var out []int64
	for i := range many {
		out = append(out, int64(i+1))
	}
	return out
}

// rightEvents are some right events of each kind.
func rightEvents() []impl.Event {
	var out []impl.Event
	for _, l := range kindLimits() {
		least := leastEvent(l)
		out = append(out, least, greatestEvent(l))
		for many := l.behind[0] + 1; many <= l.behind[1]; many++ {
			e := least
			e.Prev = firstIds(many)
			out = append(out, e)
		}
	}
	return out
}

func sealedBytes(body []byte) string {
	return string(binary.LittleEndian.AppendUint32(slices.Clone(body), crc32.ChecksumIEEE(body)))
}

// plainBytes writes an event, right or not, as the document says.
func plainBytes(e impl.Event) []byte {
	var b []byte
	for _, n := range []int64{e.Id, e.Room, e.Author, e.Kind, e.Key, e.N, int64(len(e.Text))} {
		b = binary.AppendVarint(b, n)
	}
	b = append(b, e.Text...)
	b = binary.AppendVarint(b, int64(len(e.Prev)))
	for _, id := range e.Prev {
		b = binary.AppendVarint(b, id)
	}
	return binary.AppendVarint(b, e.Time)
}

func checkRight(t *testing.T, what string, e impl.Event) {
	t.Helper()
	text := sealedBytes(plainBytes(e))
	same(t, what+": right", impl.EventRight(e), true)
	same(t, what+": bytes", impl.EventBytes(e), text)
	same(t, what+": read", impl.EventRead(text), impl.EventOut{Event: e})
	same(t, what+": state", impl.IsState(e), e.Kind >= 1 && e.Kind <= 6)
}

func checkWrong(t *testing.T, what string, e impl.Event) {
	t.Helper()
	same(t, what+": right", impl.EventRight(e), false)
	same(t, what+": bytes", impl.EventBytes(e), "")
	same(t, what+": state", impl.IsState(e), false)
	code := int64(impl.ErrSyntax)
	text := sealedBytes(plainBytes(e))
	if len(text) > impl.MaxBytes {
		code = impl.ErrSize
	}
	same(t, what+": read", impl.EventRead(text), impl.EventOut{Code: code})
}

func checkEvent(t *testing.T, what string, e impl.Event, right bool) {
	t.Helper()
	if right {
		checkRight(t, what, e)
	} else {
		checkWrong(t, what, e)
	}
}

// Promise 3: a right event comes back from its bytes.
func TestRightEventsComeBack(t *testing.T) {
	for _, e := range rightEvents() {
		checkRight(t, "event", e)
	}
	same(t, "known bytes", impl.EventBytes(impl.Event{Id: 65, Room: 3, Author: 6, Kind: 3, Key: 2, N: 100, Prev: []int64{64}, Time: 1}),
		sealedBytes([]byte("\x82\x01\x06\x0c\x06\x04\xc8\x01\x00\x02\x80\x01\x02")))
}

func TestEventConstants(t *testing.T) {
	kinds := []int64{impl.EvCreate, impl.EvMember, impl.EvPower, impl.EvTopic, impl.EvDoor, impl.EvSight, impl.EvSay, impl.EvHide}
	same(t, "kinds", kinds, []int64{1, 2, 3, 4, 5, 6, 7, 8})
	same(t, "members", []int64{impl.MbJoin, impl.MbLeave, impl.MbBan, impl.MbAsked}, []int64{1, 2, 3, 4})
	same(t, "limits", []int64{impl.MaxUsers, impl.MaxRooms, impl.MaxPrev, impl.MaxText}, []int64{6, 3, 4, 30})
}

// Promise 3: with one byte turned it is refused.
func TestTurnedEventsAreRefused(t *testing.T) {
	for _, e := range rightEvents() {
		text := impl.EventBytes(e)
		for i := range text {
			for turn := 1; turn < 256; turn++ {
				b := []byte(text)
				b[i] ^= byte(turn)
				got := impl.EventRead(string(b))
				if got.Code != impl.ErrSum || !impl.SameEvent(got.Event, impl.Event{}) {
					t.Fatalf("EventRead of %+v with byte %d turned by %d: got %+v", e, i, turn, got)
				}
			}
		}
	}
}

func TestFieldsOfAllEvents(t *testing.T) {
	fields := []struct {
		what        string
		field       func(e *impl.Event) *int64
		least, most int64
	}{
		{"Id", func(e *impl.Event) *int64 { return &e.Id }, 1, 1000000},
		{"Room", func(e *impl.Event) *int64 { return &e.Room }, 1, 3},
		{"Author", func(e *impl.Event) *int64 { return &e.Author }, 1, 6},
		{"Time", func(e *impl.Event) *int64 { return &e.Time }, 0, 1000000},
	}
	for _, l := range kindLimits() {
		for _, f := range fields {
			for _, n := range []int64{math.MinInt64, -1, 0, 1, 3, 4, 6, 7, 999999, 1000000, 1000001, math.MaxInt64} {
				e := leastEvent(l)
				if len(e.Prev) > 0 {
					e.Prev = []int64{600}
				}
				*f.field(&e) = n
				checkEvent(t, f.what, e, f.least <= n && n <= f.most)
			}
		}
	}
}

func TestFieldsByKind(t *testing.T) {
	keys := []int64{math.MinInt64, -1, 0, 1, 2, 6, 7, 999999, 1000000, 1000001, math.MaxInt64}
	ns := []int64{math.MinInt64, -1, 0, 1, 2, 3, 4, 5, 99, 100, 101, math.MaxInt64}
	sizes := []int{0, 1, 2, 29, 30, 31, 127, impl.MaxBytes + 1}
	for _, l := range kindLimits() {
		for _, key := range keys {
			for _, n := range ns {
				for _, size := range sizes {
					e := leastEvent(l)
					e.Key, e.N, e.Text = key, n, letters(size)
					right := l.key[0] <= key && key <= l.key[1] && l.n[0] <= n && n <= l.n[1]
					checkEvent(t, "fields", e, right && l.textSize[0] <= size && size <= l.textSize[1])
				}
			}
		}
	}
	all := leastEvent(kindLimits()[6])
	all.Text = "\x00\xff\x80\n\u00e4"
	checkRight(t, "any bytes", all)
}

func TestKindsOutside(t *testing.T) {
	for _, l := range kindLimits() {
		for _, kind := range []int64{math.MinInt64, -8, -1, 0, 9, 10, 257, math.MaxInt64} {
			e := leastEvent(l)
			e.Kind = kind
			checkWrong(t, "kind", e)
		}
	}
	checkWrong(t, "nothing", impl.Event{})
	checkWrong(t, "nothing but places", impl.Event{Id: 1, Room: 1, Author: 1, Prev: []int64{2}})
}

func TestPrevOfEvents(t *testing.T) {
	rows := []struct {
		prev  []int64
		right bool
	}{
		{nil, false},
		{[]int64{}, false},
		{[]int64{1}, true},
		{[]int64{1000000}, true},
		{[]int64{0}, false},
		{[]int64{-1}, false},
		{[]int64{1000001}, false},
		{[]int64{math.MinInt64}, false},
		{[]int64{math.MaxInt64}, false},
		{[]int64{500}, false},
		{[]int64{499, 501}, true},
		{[]int64{499, 500}, false},
		{[]int64{500, 501}, false},
		{[]int64{499, 500, 501}, false},
		{[]int64{1, 2}, true},
		{[]int64{2, 1}, false},
		{[]int64{2, 2}, false},
		{[]int64{1, 3, 2}, false},
		{[]int64{1, 2, 2}, false},
		{[]int64{0, 1}, false},
		{[]int64{1, 2, 3, 1000000}, true},
		{[]int64{1, 2, 3, 1000001}, false},
		{[]int64{1, 2, 3, 500}, false},
		{[]int64{1, 2, 3, 4}, true},
		{[]int64{1, 2, 4, 3}, false},
		{[]int64{1, 2, 3, 4, 5}, false},
		{firstIds(impl.MaxList), false},
		{firstIds(impl.MaxList + 1), false},
	}
	for _, l := range kindLimits() {
		for _, r := range rows {
			e := leastEvent(l)
			e.Prev = r.prev
			if l.kind != impl.EvCreate {
				checkEvent(t, "prev", e, r.right)
			} else if len(r.prev) > 0 {
				checkWrong(t, "prev of a creation", e)
			}
		}
	}
	e := leastEvent(kindLimits()[0])
	e.Prev = []int64{}
	same(t, "an empty list is none", impl.EventRight(e), true)
	same(t, "an empty list has the bytes of none", impl.EventBytes(e), sealedBytes(plainBytes(e)))
}

func TestEventReadFaults(t *testing.T) {
	say := impl.Event{Id: 9, Room: 1, Author: 1, Kind: impl.EvSay, Text: "ab", Prev: []int64{3}, Time: 7}
	body := plainBytes(say)
	for _, text := range []string{"", "a", "\x00\x00\x00"} {
		same(t, "short", impl.EventRead(text), impl.EventOut{Code: impl.ErrShort})
	}
	same(t, "no seal", impl.EventRead(string(body)), impl.EventOut{Code: impl.ErrSum})
	same(t, "sealed nothing", impl.EventRead(sealedBytes(nil)), impl.EventOut{Code: impl.ErrSyntax})
	for _, e := range rightEvents() {
		whole := plainBytes(e)
		for cut := range whole {
			same(t, "cut off", impl.EventRead(sealedBytes(whole[:cut])), impl.EventOut{Code: impl.ErrSyntax})
		}
		for _, more := range []string{"\x00", "\x02", "\x80", sealedBytes(whole)} {
			same(t, "something behind", impl.EventRead(sealedBytes(append(slices.Clone(whole), more...))), impl.EventOut{Code: impl.ErrSyntax})
		}
	}
	same(t, "sealed twice", impl.EventRead(sealedBytes([]byte(sealedBytes(body)))), impl.EventOut{Code: impl.ErrSyntax})
	wrong := []string{
		"\x92\x00\x02\x02\x0e\x00\x00\x04ab\x02\x06\x0e",
		"\x12\x02\x02\x0e\x00\x00\x84\x00ab\x02\x06\x0e",
		"\x12\x02\x02\x0e\x00\x00\x03ab\x02\x06\x0e",
		"\x12\x02\x02\x0e\x00\x00\x04ab\x82\x00\x06\x0e",
		"\x12\x02\x02\x0e\x00\x00\x04ab\x02\x06\x8e\x00",
		"\x12\x02\x02\x0e\x00\x00\x04ab\x04\x06\x0e",
		"\x12\x02\x02\x0e\x00\x00\x04ab\x01\x0e",
		"\x02\x02\x02\x02\x00\x00\x00\x01\x00",
		"\x12\x02\x02\x0e\x00\x00\x04ab\xfe\xff\xff\xff\xff\xff\xff\xff\xff\x01\x06\x0e",
		"\x12\x02\x02\x0e\x00\x00\xfe\xff\xff\xff\xff\xff\xff\xff\xff\x01ab\x02\x06\x0e",
	}
	for _, text := range wrong {
		same(t, "wrong bytes", impl.EventRead(sealedBytes([]byte(text))), impl.EventOut{Code: impl.ErrSyntax})
	}
	same(t, "the right ones beside these", impl.EventRead(sealedBytes([]byte("\x12\x02\x02\x0e\x00\x00\x04ab\x02\x06\x0e"))), impl.EventOut{Event: say})
}

func TestEventReadSizes(t *testing.T) {
	long := []byte(letters(impl.MaxBytes - 4))
	same(t, "as long as may be", impl.EventRead(sealedBytes(long)), impl.EventOut{Code: impl.ErrSyntax})
	same(t, "as long as may be, no seal", impl.EventRead(letters(impl.MaxBytes)), impl.EventOut{Code: impl.ErrSum})
	same(t, "too long", impl.EventRead(sealedBytes(append(long, 'a'))), impl.EventOut{Code: impl.ErrSize})
	same(t, "too long, no seal", impl.EventRead(letters(impl.MaxBytes+1)), impl.EventOut{Code: impl.ErrSize})
	many := append([]byte("\x12\x02\x02\x0e\x00\x00\x04ab"), binary.AppendVarint(nil, 7000)...)
	for range 7000 {
		many = append(many, 2)
	}
	same(t, "many Prev", impl.EventRead(sealedBytes(append(many, 0))), impl.EventOut{Code: impl.ErrSyntax})
}

func TestSameEvents(t *testing.T) {
	a := impl.Event{Id: 9, Room: 1, Author: 2, Kind: 7, Key: 4, N: 5, Text: "ab", Prev: []int64{3, 6}, Time: 8}
	b := a
	b.Text = string([]byte("ab"))
	b.Prev = slices.Clone(a.Prev)
	same(t, "alike", impl.SameEvent(a, b), true)
	turns := []func(e *impl.Event){
		func(e *impl.Event) { e.Id++ },
		func(e *impl.Event) { e.Room++ },
		func(e *impl.Event) { e.Author++ },
		func(e *impl.Event) { e.Kind++ },
		func(e *impl.Event) { e.Key++ },
		func(e *impl.Event) { e.N++ },
		func(e *impl.Event) { e.Text = "aB" },
		func(e *impl.Event) { e.Text = "ab\x00" },
		func(e *impl.Event) { e.Text = "" },
		func(e *impl.Event) { e.Prev = []int64{3, 7} },
		func(e *impl.Event) { e.Prev = []int64{6, 3} },
		func(e *impl.Event) { e.Prev = []int64{3} },
		func(e *impl.Event) { e.Prev = []int64{3, 6, 6} },
		func(e *impl.Event) { e.Prev = nil },
		func(e *impl.Event) { e.Time++ },
		func(e *impl.Event) { e.Id, e.Room = e.Room, e.Id },
		func(e *impl.Event) { e.Key, e.N = e.N, e.Key },
	}
	for i, turn := range turns {
		c := a
		turn(&c)
		if impl.SameEvent(a, c) || impl.SameEvent(c, a) {
			t.Errorf("SameEvent does not see turn %d", i)
		}
	}
}

func TestSameEventsWhateverTheyAre(t *testing.T) {
	same(t, "zero", impl.SameEvent(impl.Event{}, impl.Event{Prev: []int64{}}), true)
	same(t, "an empty list and none", impl.SameEvent(impl.Event{Prev: []int64{}}, impl.Event{}), true)
	long := func() impl.Event {
		return impl.Event{Id: -1, Kind: 99, Text: letters(impl.MaxBytes + 1), Prev: firstIds(impl.MaxList + 1)}
	}
	a, b := long(), long()
	same(t, "long", impl.SameEvent(a, b), true)
	b.Prev[impl.MaxList] = 0
	same(t, "long, the last Prev", impl.SameEvent(a, b), false)
	b = long()
	b.Text = b.Text[:impl.MaxBytes] + "!"
	same(t, "long, the last byte", impl.SameEvent(a, b), false)
}

func TestEventsAreNotChangedNorKept(t *testing.T) {
	back := []int64{3, 6, 7, 8}
	e := impl.Event{Id: 9, Room: 1, Author: 2, Kind: impl.EvSay, Text: letters(30), Prev: back[:2], Time: 8}
	text := impl.EventBytes(e)
	kept := string([]byte(text))
	impl.EventRight(e)
	impl.IsState(e)
	impl.SameEvent(e, e)
	same(t, "Prev is as it was, and what lies behind it", back, []int64{3, 6, 7, 8})
	first, second := impl.EventRead(text).Event, impl.EventRead(text).Event
	first.Prev[0] = 1
	same(t, "another answer", second, e)
	back[0] = 4
	same(t, "bytes told ahead", text, kept)
	same(t, "read anew", impl.EventRead(text).Event.Prev, []int64{3, 6})
	same(t, "told anew", impl.EventBytes(e), sealedBytes(plainBytes(e)))
	if shares(second.Text, text) || shares(text, e.Text) {
		t.Error("an answer shares memory with what was handed in")
	}
}
