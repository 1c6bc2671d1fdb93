package tests

import (
	"fmt"
	"math"
	"runtime"
	"slices"
	"strings"
	"sync"
	"testing"
	"time"

	"loop.example/g00683/impl"
)

// A model of the chapter, word by word, on the calls of the earlier chapters.

func modelTokenText(user int64, pos int64) string {
	if user < 1 || user > 6 || pos < 0 || pos > 120 {
		return ""
	}
	return fmt.Sprintf("t%d-%d", user, pos)
}

func modelTokenRead(user int64, text string) impl.NumOut {
	switch {
	case len(text) > 8000:
		return impl.NumOut{Code: impl.ErrSize}
	case user < 1 || user > 6:
		return impl.NumOut{Code: impl.ErrForm}
	case text == "":
		return impl.NumOut{}
	}
	for pos := range int64(121) {
		if text == fmt.Sprintf("t%d-%d", user, pos) {
			return impl.NumOut{N: pos}
		}
	}
	return impl.NumOut{Code: impl.ErrSyntax}
}

// tidings is a right house, with what the earlier calls tell of it, each asked once.
type tidings struct {
	house   impl.Hub
	current [impl.MaxRooms + 1][]impl.Entry
	shown   map[impl.Spot]impl.Shown
	stood   map[impl.Spot][]impl.Entry
	roomsOf [impl.MaxUsers + 1][]int64
	visible [impl.MaxUsers + 1][impl.MaxRooms + 1][]int64
}

func tidingsOf(h impl.Hub) *tidings {
	out := &tidings{house: h, shown: map[impl.Spot]impl.Shown{}, stood: map[impl.Spot][]impl.Entry{}}
	for _, at := range h.Stream {
		out.shown[at] = impl.ShownOf(h, at.Room, at.Id)
	}
	for _, g := range h.Rooms {
		out.current[g.Room] = impl.CurrentOf(g)
		for user := int64(1); user <= impl.MaxUsers; user++ {
			out.visible[user][g.Room] = impl.VisibleOf(h, user, g.Room)
			out.roomsOf[user] = impl.RoomsOf(h, user)
		}
	}
	return out
}

// stoodAt is how a room stood at a place.
func (x *tidings) stoodAt(room int64, pos int64) []impl.Entry {
	at := impl.Spot{Room: room, Id: pos}
	if _, asked := x.stood[at]; !asked {
		x.stood[at] = impl.CurrentAt(x.house, room, pos)
	}
	return x.stood[at]
}

func (x *tidings) joinedAt(room int64, user int64, pos int64) bool {
	return modelMember(x.house.Rooms[room-1], x.stoodAt(room, pos), user) == impl.MbJoin
}

func (x *tidings) part(user int64, room int64, pos int64, limit int64) impl.Part {
	var from []impl.Entry
	above := int64(0)
	if x.joinedAt(room, user, pos) {
		from, above = x.stoodAt(room, pos), pos
	}
	out := impl.Part{Room: room, State: modelStateDiff(from, x.current[room]), From: int64(len(x.house.Stream))}
	for i, at := range slices.Backward(x.house.Stream) {
		if int64(i+1) <= above || at.Room != room || !slices.Contains(x.visible[user][room], at.Id) {
			continue
		}
		if int64(len(out.Events)) == limit {
			out.Gap = true
			continue
		}
		out.Events = slices.Insert(out.Events, 0, x.shown[at])
		out.From = int64(i)
	}
	return out
}

func (x *tidings) sync(user int64, since string, limit int64) impl.SyncOut {
	token := modelTokenRead(user, since)
	switch {
	case token.Code == impl.ErrSize:
		return impl.SyncOut{Code: impl.ErrSize}
	case user < 1 || user > 6 || limit < 1 || limit > 20:
		return impl.SyncOut{Code: impl.ErrForm}
	case token.Code != impl.OK:
		return impl.SyncOut{Code: token.Code}
	case token.N > int64(len(x.house.Stream)):
		return impl.SyncOut{Code: impl.ErrRange}
	}
	out := impl.SyncOut{Next: int64(len(x.house.Stream))}
	for _, room := range x.roomsOf[user] {
		if p := x.part(user, room, token.N, limit); len(p.State) > 0 || len(p.Events) > 0 {
			out.Parts = append(out.Parts, p)
		}
	}
	for room := int64(1); room <= impl.MaxRooms; room++ {
		if x.joinedAt(room, user, token.N) && !slices.Contains(x.roomsOf[user], room) {
			out.Left = append(out.Left, room)
		}
	}
	return out
}

// tidingsTally counts of what kinds the answers were.
type tidingsTally struct {
	stateOnly, eventsOnly, both, gaps, left, quiet int
	anew, again, taken, hidden, whole              int
}

func (count *tidingsTally) add(x *tidings, user int64, pos int64, out impl.SyncOut) {
	count.left += len(out.Left)
	count.quiet += len(x.roomsOf[user]) - len(out.Parts)
	for _, p := range out.Parts {
		was := x.joinedAt(p.Room, user, pos)
		for many, holds := range map[*int]bool{
			&count.stateOnly:  len(p.Events) == 0,
			&count.eventsOnly: len(p.State) == 0,
			&count.both:       len(p.State) > 0 && len(p.Events) > 0,
			&count.gaps:       p.Gap,
			&count.anew:       !was && pos > 0,
			&count.again:      was && slices.ContainsFunc(p.Events, func(s impl.Shown) bool { return s.Event.Kind == impl.EvMember && s.Event.Key == user }),
			&count.taken:      slices.ContainsFunc(p.State, func(e impl.Entry) bool { return e.Id == 0 }),
			&count.hidden:     slices.ContainsFunc(p.Events, func(s impl.Shown) bool { return s.Hidden }),
			&count.whole:      was && !p.Gap,
		} {
			if holds {
				*many++
			}
		}
	}
}

// checkEnough checks that there was enough of all kinds.
func (count *tidingsTally) checkEnough(t *testing.T) {
	t.Helper()
	for _, many := range []int{count.stateOnly, count.eventsOnly, count.both, count.gaps, count.left, count.quiet, count.anew, count.again, count.taken, count.hidden, count.whole} {
		if many < 10 {
			t.Errorf("too few of one kind: %+v", *count)
		}
	}
}

// checkSync holds one answer against the model, and what it tells against all that one sees.
func checkSync(t *testing.T, what string, x *tidings, handed impl.Hub, user int64, since string, limit int64, count *tidingsTally) impl.SyncOut {
	t.Helper()
	got, want := impl.Sync(handed, user, since, limit), x.sync(user, since, limit)
	if fmt.Sprintf("%#v", got) != fmt.Sprintf("%#v", want) {
		t.Errorf("%s: %d from %.20q on, at most %d, in %+v: got %+v, want %+v", what, user, since, limit, x.house, got, want)
	}
	if got.Code != impl.OK {
		return got
	}
	for _, p := range got.Parts {
		checkWhole(t, what, x, user, p)
	}
	count.add(x, user, impl.TokenRead(user, since).N, got)
	return got
}

// checkWhole is promise 10: what is told, and what came by where that begins, is all that one sees.
func checkWhole(t *testing.T, what string, x *tidings, user int64, p impl.Part) {
	t.Helper()
	var all []int64
	for i, at := range x.house.Stream {
		if at.Room == p.Room && int64(i+1) <= p.From && slices.Contains(x.visible[user][p.Room], at.Id) {
			all = append(all, at.Id)
		}
	}
	same(t, fmt.Sprint(what, ": all that ", user, " sees of room ", p.Room), append(all, shownIds(p.Events)...), x.visible[user][p.Room])
}

func shownIds(l []impl.Shown) []int64 {
	var out []int64
	for _, s := range l {
		out = append(out, s.Event.Id)
	}
	return out
}

func wrongLimits() []int64 {
	return []int64{0, 21, -1, 22, impl.MaxStream, math.MinInt64, math.MaxInt64}
}

// checkTidings asks a right house from no token, and from those of its places, by steps of at most so many, for all users.
func checkTidings(t *testing.T, what string, h impl.Hub, d *dice, step int, count *tidingsTally) {
	t.Helper()
	handed, unchanged := handedHub(h)
	x := tidingsOf(h)
	for user := int64(1); user <= impl.MaxUsers; user++ {
		for limit := int64(1); limit <= 20; limit++ {
			checkSync(t, what, x, handed, user, "", limit, count)
		}
		for pos := 0; pos < len(h.Stream)+2; pos += 1 + d.below(step) {
			for _, limit := range []int64{1, 20, int64(1 + d.below(20)), int64(2 + d.below(4))} {
				checkSync(t, what, x, handed, user, modelTokenText(user, int64(pos)), limit, count)
			}
		}
		checkFaults(t, what, x, handed, user, count)
		out := impl.Sync(handed, user, modelTokenText(user, int64(d.below(len(h.Stream)+1))), 20)
		isNewMemory(t, what, out, handed)
		same(t, what+": nothing is new then", impl.Sync(handed, user, impl.TokenText(user, out.Next), 1), impl.SyncOut{Next: int64(len(h.Stream))})
	}
	unchanged(t, what)
}

// checkFaults asks what is wrong beside a right house.
func checkFaults(t *testing.T, what string, x *tidings, handed impl.Hub, user int64, count *tidingsTally) {
	t.Helper()
	for _, limit := range wrongLimits() {
		for _, since := range []string{"", "q", modelTokenText(user, 0), modelTokenText(user, 120), letters(8001)} {
			checkSync(t, what, x, handed, user, since, limit, count)
		}
	}
	for _, since := range []string{modelTokenText(user, 120), modelTokenText(1+user%6, 0), modelTokenText(1+user%6, 120), "q", letters(8000), letters(8001)} {
		checkSync(t, what, x, handed, user, since, 20, count)
	}
	for _, none := range []int64{0, 7, -user, math.MinInt64, math.MaxInt64} {
		for _, since := range []string{"", "q", modelTokenText(user, 0), fmt.Sprintf("t%d-0", none), letters(8001)} {
			checkSync(t, what, x, handed, none, since, 20, count)
		}
	}
}

// checkNoSync checks that a house is refused, whatever else is asked.
func checkNoSync(t *testing.T, what string, h impl.Hub) {
	t.Helper()
	handed, unchanged := handedHub(h)
	for _, user := range []int64{1, 2, 6, 0, 7} {
		for _, since := range []string{"", modelTokenText(user, 0), modelTokenText(user, 3), modelTokenText(user, 120), "q", letters(8000)} {
			for _, limit := range []int64{1, 20, 0, 21} {
				same(t, what+": nothing is told", impl.Sync(handed, user, since, limit), impl.SyncOut{Code: impl.ErrForm})
			}
		}
		same(t, what+": too long", impl.Sync(handed, user, letters(8001), 1), impl.SyncOut{Code: impl.ErrSize})
	}
	unchanged(t, what)
}

// drawnWays is a house in which most is seen only by who is in then, and the ways part all the time.
func drawnWays(d *dice) impl.Hub {
	h := impl.HubNew()
	for room := range int64(impl.MaxRooms) {
		for _, e := range lateEvents() {
			h = impl.HubPut(h, inRoom(room+1, e)).Hub
		}
	}
	for range 54 {
		h = way(h, d)
	}
	return h
}

// way lets one more come, behind one or two of those that are there.
func way(h impl.Hub, d *dice) impl.Hub {
	e := drawnLook(d, h)
	if e.Kind == impl.EvSight && d.below(3) > 0 {
		e.N = 3
	}
	there := idsOf(h.Rooms[e.Room-1].Events)
	for range 1 + d.below(2) {
		e.Prev = append(e.Prev, there[len(there)-1-d.below(min(9, len(there)))])
	}
	// What most do not see changes how the room stands nevertheless.
	if d.below(5) == 0 {
		e = inRoom(e.Room, gives(1, 5, int64(d.below(50))))
		e.Prev = []int64{there[min(3, len(there)-1)]}
	}
	slices.Sort(e.Prev)
	e.Prev = slices.Compact(e.Prev)
	if out := impl.HubPut(h, event(impl.NextId(h), int64(d.below(3)), e, e.Prev...)); out.Code == impl.OK {
		return out.Hub
	}
	return h
}

// Promise 10, in houses that are drawn.
func TestToldIsAllThatOneSees(t *testing.T) {
	d := dice(10)
	count := tidingsTally{}
	for range 6 {
		checkTidings(t, "drawn", drawnHouse(&d, 9, 12), &d, 1, &count)
		checkTidings(t, "drawn ways", drawnWays(&d), &d, 1, &count)
	}
	count.checkEnough(t)
}

// listener holds what one put together.
type listener struct {
	since string
	rooms map[int64][]impl.Entry
}

func (l *listener) take(t *testing.T, user int64, out impl.SyncOut) {
	t.Helper()
	for _, room := range out.Left {
		if _, held := l.rooms[room]; !held {
			t.Errorf("%d left room %d, but was not told of it", user, room)
		}
		delete(l.rooms, room)
	}
	for _, p := range out.Parts {
		made := impl.StateApply(l.rooms[p.Room], p.State)
		same(t, "a right difference", made.Code, int64(impl.OK))
		l.rooms[p.Room] = made.State
	}
	l.since = impl.TokenText(user, out.Next)
}

// What came since the last answer, asked by its Next, comes to how the rooms stand.
func TestToldStepByStep(t *testing.T) {
	d := dice(100)
	count := tidingsTally{}
	for range 4 {
		h := impl.HubNew()
		var all [impl.MaxUsers + 1]listener
		for user := range all {
			all[user].rooms = map[int64][]impl.Entry{}
		}
		for i, e := range drawnEvents(&d, 9, 12) {
			if out := impl.HubPut(h, e); out.Code == impl.OK {
				h = out.Hub
			}
			for range d.below(1 + i/6) {
				h = look(h, &d)
			}
			if d.below(2) == 0 {
				askAll(t, &d, h, &all, &count)
			}
		}
		for range 24 {
			h = way(look(h, &d), &d)
			askAll(t, &d, h, &all, &count)
		}
	}
	if count.again < 3 || count.left < 10 || count.gaps < 10 || count.eventsOnly < 10 || count.quiet < 10 || count.taken < 3 {
		t.Errorf("too few of one kind: %+v", count)
	}
}

// askAll lets most of the users ask.
func askAll(t *testing.T, d *dice, h impl.Hub, all *[impl.MaxUsers + 1]listener, count *tidingsTally) {
	t.Helper()
	x := tidingsOf(h)
	for user := int64(1); user <= impl.MaxUsers; user++ {
		if d.below(3) > 0 {
			checkTaken(t, x, user, &all[user], int64(1+d.below(20)), count)
		}
	}
}

// checkTaken lets one ask from its last token on, and looks what it holds then.
func checkTaken(t *testing.T, x *tidings, user int64, l *listener, limit int64, count *tidingsTally) {
	t.Helper()
	l.take(t, user, checkSync(t, "step by step", x, x.house, user, l.since, limit, count))
	in := impl.RoomsOf(x.house, user)
	same(t, "how many rooms it holds", len(l.rooms), len(in))
	for _, room := range in {
		same(t, fmt.Sprint("how room ", room, " stands for ", user), l.rooms[room], impl.CurrentOf(x.house.Rooms[room-1]))
	}
}

func TestTokens(t *testing.T) {
	for user := int64(1); user <= impl.MaxUsers; user++ {
		for pos := range int64(impl.MaxStream + 1) {
			text := impl.TokenText(user, pos)
			same(t, "token", text, modelTokenText(user, pos))
			for other := int64(-1); other <= impl.MaxUsers+2; other++ {
				want := impl.NumOut{Code: impl.ErrSyntax}
				switch {
				case other < 1 || other > impl.MaxUsers:
					want = impl.NumOut{Code: impl.ErrForm}
				case other == user:
					want = impl.NumOut{N: pos}
				}
				same(t, fmt.Sprint(other, " reads ", text), impl.TokenRead(other, text), want)
			}
		}
	}
	same(t, "tokens", []string{impl.TokenText(1, 0), impl.TokenText(2, 4), impl.TokenText(impl.MaxUsers, impl.MaxStream), impl.TokenText(3, 100)}, []string{"t1-0", "t2-4", "t6-120", "t3-100"})
	for _, none := range []int64{0, -1, 7, 12, math.MinInt64, math.MaxInt64} {
		same(t, fmt.Sprint("of no user ", none), []string{impl.TokenText(none, 0), impl.TokenText(none, 4), impl.TokenText(none, 121)}, []string{"", "", ""})
	}
	for _, none := range []int64{-1, -4, impl.MaxStream + 1, 1000, math.MinInt64, math.MaxInt64} {
		same(t, fmt.Sprint("of no place ", none), []string{impl.TokenText(1, none), impl.TokenText(6, none), impl.TokenText(0, none)}, []string{"", "", ""})
	}
}

// notTokens are texts that are like a token of user 2, but none.
func notTokens() []string {
	return []string{
		"q", " ", "-", "t", "t2", "t2-", "t-", "t-4", "-4", "2-4", "4", "t24", "t2--4", "t-2-4", "t2-4-", "t2-4-4", "tt2-4", "t2t-4", "t2-t4", "t2-4t", "t2-4t2-4", "t4-2-4",
		"t02-4", "t2-04", "t2-00", "t2-004", "t002-04", "t0-4", "t7-4", "t22-4", "t1-4", "t12-4", "t3-4",
		"t+2-4", "t2-+4", "t2+4", "t2--0", "t2-+0", "t2-_4", "t2-1_0", "t2-0x4", "t2-4.0", "t2-1e1", "t2-a", "t2-4a", "t2-a4", "t2-1a0",
		" t2-4", "t2-4 ", "t 2-4", "t2 -4", "t2- 4", "t2-4\n", "\tt2-4", "t2-4\x00", "\x00t2-4", "t2-\x004", "t2 4", "t2-1 0",
		"T2-4", "s2-4", "u2-4", "t2_4", "t2,4", "t2=4", "t2\u20134", "t\u0662-4", "t2-\u0664", "t2-\uff14", "t2-1\uff10", "t2-4\u0301", "\ufefft2-4", "\xfft2-4", "t2-\xff4", "t2-4\xff", "t2\xff-4",
		"t2-121", "t2-122", "t2-130", "t2-200", "t2-999", "t2-1000", "t2-1200", "t2-4294967300", "t2-9223372036854775807", "t2-9223372036854775808", "t2-18446744073709551616", "t2-18446744073709551620", "t2-36893488147419103236",
		"t18446744073709551618-4", "t4294967298-4", "t2-340282366920938463463374607431768211460",
		"t2-" + strings.Repeat("0", 7996) + "4", "t2-" + strings.Repeat("1", 7997), "t2-4" + strings.Repeat(" ", 7996), strings.Repeat("t2-4", 2000), "t" + strings.Repeat("2", 7997) + "-4", letters(8000),
	}
}

func TestNotTokens(t *testing.T) {
	h := houseOf(openedAnd())
	for _, text := range notTokens() {
		same(t, fmt.Sprintf("%.20q", text), []impl.NumOut{impl.TokenRead(2, text), modelTokenRead(2, text)}, []impl.NumOut{{Code: impl.ErrSyntax}, {Code: impl.ErrSyntax}})
		same(t, fmt.Sprintf("told from %.20q on", text), impl.Sync(h, 2, text, 20), impl.SyncOut{Code: impl.ErrSyntax})
		for _, none := range []int64{0, 7, -2} {
			same(t, fmt.Sprintf("%d reads %.20q", none, text), impl.TokenRead(none, text), impl.NumOut{Code: impl.ErrForm})
		}
	}
	for _, text := range []string{letters(8001), "t2-4" + letters(8000), strings.Repeat("0", 9000), "t2-" + strings.Repeat("0", 7997) + "4"} {
		for _, user := range []int64{1, 2, 6, 0, 7} {
			same(t, "too long", []any{impl.TokenRead(user, text), impl.Sync(h, user, text, 20)}, []any{impl.NumOut{Code: impl.ErrSize}, impl.SyncOut{Code: impl.ErrSize}})
		}
	}
	for user := int64(1); user <= impl.MaxUsers; user++ {
		same(t, "the empty text", impl.TokenRead(user, ""), impl.NumOut{})
	}
	for _, none := range []int64{0, 7, math.MinInt64, math.MaxInt64} {
		same(t, "the empty text of no user", impl.TokenRead(none, ""), impl.NumOut{Code: impl.ErrForm})
	}
}

// brief is a Part with the Ids of its Events only.
type brief struct {
	room  int64
	state []impl.Entry
	ids   []int64
	gap   bool
	from  int64
}

func entry(kind int64, key int64, id int64) impl.Entry {
	return impl.Entry{Kind: kind, Key: key, Id: id}
}

// checkNews holds what one is told against what is written out, and against the model.
func checkNews(t *testing.T, what string, h impl.Hub, user int64, since string, limit int64, left []int64, want ...brief) impl.SyncOut {
	t.Helper()
	handed, unchanged := handedHub(h)
	out := checkSync(t, what, tidingsOf(h), handed, user, since, limit, &tidingsTally{})
	var got []brief
	for _, p := range out.Parts {
		got = append(got, brief{room: p.Room, state: p.State, ids: shownIds(p.Events), gap: p.Gap, from: p.From})
	}
	what = fmt.Sprintf("%s: %d from %q on", what, user, since)
	same(t, what, got, want)
	same(t, what+": left", out.Left, left)
	same(t, what+": the next, and the code", []int64{out.Next, out.Code}, []int64{int64(len(h.Stream)), impl.OK})
	isNewMemory(t, what, out, handed)
	unchanged(t, what)
	return out
}

func TestNothingIsNew(t *testing.T) {
	d := dice(1)
	h := impl.HubNew()
	checkTidings(t, "a new house", h, &d, 1, &tidingsTally{})
	for user := int64(1); user <= impl.MaxUsers; user++ {
		checkNews(t, "a new house", h, user, "", 1, nil)
		checkNews(t, "a new house", h, user, impl.TokenText(user, 0), 20, nil)
		same(t, "too far", impl.Sync(h, user, impl.TokenText(user, 1), 1), impl.SyncOut{Code: impl.ErrRange})
	}
	// Who began a room is not in it.
	h = makeAll(t, h, begins(0))
	checkNews(t, "begun", h, 1, "", 20, nil)
	checkNews(t, "begun", h, 1, "t1-1", 20, nil)
	h = makeAll(t, h, joins(1))
	in := brief{room: 1, state: []impl.Entry{entry(impl.EvCreate, 0, 1), entry(impl.EvMember, 1, 2)}, ids: []int64{1, 2}}
	for _, since := range []string{"", "t1-0", "t1-1"} {
		checkNews(t, "come in", h, 1, since, 2, nil, in)
	}
	checkNews(t, "come in", h, 1, "t1-2", 20, nil)
	h = makeAll(t, h, leaves(1))
	for since, left := range map[string][]int64{"": nil, "t1-0": nil, "t1-1": nil, "t1-2": {1}, "t1-3": nil} {
		checkNews(t, "gone", h, 1, since, 20, left)
	}
	checkTidings(t, "gone", h, &d, 1, &tidingsTally{})
}

// courseState is how course stands at its end, with these in place of its own.
func courseState(others ...impl.Entry) []impl.Entry {
	l := []impl.Entry{entry(impl.EvCreate, 0, 1), entry(impl.EvMember, 1, 2), entry(impl.EvMember, 2, 9), entry(impl.EvMember, 3, 8), entry(impl.EvMember, 4, 13), entry(impl.EvMember, 5, 15), entry(impl.EvDoor, 0, 11), entry(impl.EvSight, 0, 3)}
	for _, other := range others {
		for i, x := range l {
			if x.Kind == other.Kind && x.Key == other.Key {
				l[i] = other
			}
		}
	}
	return l
}

func TestWhatIsNew(t *testing.T) {
	h := course(t, 3)
	same(t, "its end", impl.CurrentOf(h.Rooms[0]), courseState())
	for _, since := range []string{"", "t1-0", "t1-1"} {
		checkNews(t, "course", h, 1, since, 20, nil, brief{room: 1, state: courseState(), ids: upTo(1, 16)})
		checkNews(t, "course", h, 1, since, 5, nil, brief{room: 1, state: courseState(), ids: upTo(12, 16), gap: true, from: 11})
		checkNews(t, "course", h, 1, since, 1, nil, brief{room: 1, state: courseState(), ids: []int64{16}, gap: true, from: 15})
	}
	checkNews(t, "course", h, 1, "t1-2", 20, nil, brief{room: 1, state: slices.Delete(courseState(), 0, 2), ids: upTo(3, 16), from: 2})
	checkNews(t, "course", h, 1, "t1-13", 20, nil, brief{room: 1, state: []impl.Entry{entry(impl.EvMember, 5, 15)}, ids: upTo(14, 16), from: 13})
	checkNews(t, "course", h, 1, "t1-13", 2, nil, brief{room: 1, state: []impl.Entry{entry(impl.EvMember, 5, 15)}, ids: upTo(15, 16), gap: true, from: 14})
	checkNews(t, "course", h, 1, "t1-15", 20, nil, brief{room: 1, ids: []int64{16}, from: 15})
	checkNews(t, "course", h, 1, "t1-16", 20, nil)
	same(t, "too far", impl.Sync(h, 1, "t1-17", 20), impl.SyncOut{Code: impl.ErrRange})
}

// Who came in since is told all of it, from the beginning on, whatever its token says.
func TestToldWhoCameIn(t *testing.T) {
	h := course(t, 3)
	for _, since := range []string{"", "t5-0", "t5-3", "t5-14"} {
		checkNews(t, "only those in then see", h, 5, since, 20, nil, brief{room: 1, state: courseState(), ids: []int64{1, 2, 15, 16}})
		checkNews(t, "only those in then see", h, 5, since, 3, nil, brief{room: 1, state: courseState(), ids: []int64{2, 15, 16}, gap: true, from: 1})
		checkNews(t, "only those in then see", h, 5, since, 2, nil, brief{room: 1, state: courseState(), ids: []int64{15, 16}, gap: true, from: 14})
	}
	checkNews(t, "only those in then see", h, 5, "t5-15", 20, nil, brief{room: 1, ids: []int64{16}, from: 15})
	checkNews(t, "only those in then see", h, 5, "t5-16", 20, nil)
	for n := int64(1); n <= 2; n++ {
		h = course(t, n)
		for _, since := range []string{"", "t5-1", "t5-10", "t5-14"} {
			checkNews(t, "who is in sees all", h, 5, since, 20, nil, brief{room: 1, state: courseState(), ids: upTo(1, 16)})
			checkNews(t, "who is in sees all", h, 5, since, 16, nil, brief{room: 1, state: courseState(), ids: upTo(1, 16)})
			checkNews(t, "who is in sees all", h, 5, since, 15, nil, brief{room: 1, state: courseState(), ids: upTo(2, 16), gap: true, from: 1})
		}
		checkNews(t, "who is in sees all", h, 5, "t5-15", 20, nil, brief{room: 1, ids: []int64{16}, from: 15})
	}
}

func TestToldWhoWent(t *testing.T) {
	for n := int64(1); n <= 3; n++ {
		h := course(t, n)
		for since, left := range map[string][]int64{"": nil, "t2-0": nil, "t2-5": nil, "t2-6": {1}, "t2-8": {1}, "t2-9": nil, "t2-16": nil} {
			checkNews(t, "left", h, 2, since, 20, left)
		}
		for since, left := range map[string][]int64{"": nil, "t4-11": nil, "t4-12": {1}, "t4-13": nil, "t4-16": nil} {
			checkNews(t, "barred", h, 4, since, 20, left)
		}
		// Who was only asked in, or never came, is told nothing, also where all see it.
		for pos := range int64(17) {
			checkNews(t, "asked in", h, 3, impl.TokenText(3, pos), 20, nil)
			checkNews(t, "never in", h, 6, impl.TokenText(6, pos), 20, nil)
		}
	}
	same(t, "barred, and may not come again", impl.HubMake(course(t, 3), joins(4)).Code, int64(impl.ErrDenied))
}

func TestToldWhoCameAgain(t *testing.T) {
	h := makeAll(t, course(t, 3), joins(2), saysAs(2, "again"))
	now := courseState(entry(impl.EvMember, 2, 17))
	since8 := []impl.Entry{entry(impl.EvMember, 2, 17), entry(impl.EvMember, 4, 13), entry(impl.EvMember, 5, 15), entry(impl.EvDoor, 0, 11)}
	checkNews(t, "in when it was told, and now", h, 2, "t2-8", 20, nil, brief{room: 1, state: since8, ids: []int64{9, 17, 18}, from: 8})
	checkNews(t, "in when it was told, and now", h, 2, "t2-7", 20, nil, brief{room: 1, state: slices.Insert(slices.Clone(since8), 1, entry(impl.EvMember, 3, 8)), ids: []int64{8, 9, 17, 18}, from: 7})
	checkNews(t, "in when it was told, and now", h, 2, "t2-8", 2, nil, brief{room: 1, state: since8, ids: []int64{17, 18}, gap: true, from: 16})
	for _, since := range []string{"", "t2-5", "t2-9", "t2-16"} {
		checkNews(t, "not in when it was told", h, 2, since, 20, nil, brief{room: 1, state: now, ids: []int64{1, 2, 5, 6, 7, 8, 9, 17, 18}})
		checkNews(t, "not in when it was told", h, 2, since, 4, nil, brief{room: 1, state: now, ids: []int64{8, 9, 17, 18}, gap: true, from: 7})
	}
	checkNews(t, "since it came again", h, 2, "t2-17", 20, nil, brief{room: 1, ids: []int64{18}, from: 17})
	h = makeAll(t, h, leaves(2))
	for since, left := range map[string][]int64{"t2-5": nil, "t2-8": {1}, "t2-9": nil, "t2-16": nil, "t2-17": {1}, "t2-18": {1}, "t2-19": nil} {
		checkNews(t, "gone again", h, 2, since, 20, left)
	}
	// In then, thrown out, let in again, and in now: for what it holds, all that is one way.
	h = makeAll(t, course(t, 2), bars(1, 5), does(1, impl.EvMember, 5, impl.MbLeave), joins(5))
	checkNews(t, "thrown out, and let in", h, 5, "t5-15", 20, nil, brief{room: 1, state: []impl.Entry{entry(impl.EvMember, 5, 19)}, ids: upTo(16, 19), from: 15})
	checkNews(t, "thrown out, and let in", h, 5, "t5-17", 20, nil, brief{room: 1, state: courseState(entry(impl.EvMember, 5, 19)), ids: upTo(1, 19)})
}

// How the room stands may change by what one does not see; and what was a part of it may be gone.
func TestOnlyTheStateIsNew(t *testing.T) {
	h := lateRoom(t, event(106, 0, topic(1), 103))
	about := []impl.Entry{entry(impl.EvTopic, 0, 106)}
	checkNews(t, "on another way", h, 2, "t2-6", 20, nil, brief{room: 1, state: about, from: 7})
	checkNews(t, "on another way", h, 1, "t1-6", 20, nil, brief{room: 1, state: about, ids: []int64{106}, from: 6})
	checkNews(t, "on another way", h, 2, "t2-7", 20, nil)
	h = putAll(t, h, inRoom(2, begins(200)), inRoom(2, event(201, 0, joins(1), 200)))
	checkNews(t, "From is up to what came in other rooms", h, 2, "t2-6", 1, nil, brief{room: 1, state: about, from: 9})
	h = putAll(t, h, saysAsAt(202, 2, "here", 104))
	checkNews(t, "one more that is seen", h, 2, "t2-6", 1, nil, brief{room: 1, state: about, ids: []int64{202}, from: 9})

	h = lateRoom(t, event(106, 0, gives(1, 2, 50), 105), event(107, 0, topic(2), 106), event(108, 1, gives(1, 2, 0), 105))
	same(t, "what was told", impl.StateAt(impl.CurrentAt(h, 1, 8), impl.EvTopic, 0), int64(107))
	checkNews(t, "it does not hold any more", h, 2, "t2-8", 20, nil, brief{room: 1, state: []impl.Entry{entry(impl.EvPower, 2, 108), entry(impl.EvTopic, 0, 0)}, ids: []int64{108}, from: 8})
	checkNews(t, "it never held", h, 2, "t2-6", 20, nil, brief{room: 1, state: []impl.Entry{entry(impl.EvPower, 2, 108)}, ids: []int64{106, 107, 108}, from: 6})
}

func saysAsAt(id int64, author int64, text string, prev ...int64) impl.Event {
	return event(id, 0, saysAs(author, text), prev...)
}

// Who may come in on one way only is in or not by where the ways meet.
func TestToldWhereWaysMeet(t *testing.T) {
	h := lateRoom(t, event(106, 0, bars(1, 2), 103))
	checkNews(t, "barred on another way", h, 2, "t2-6", 20, []int64{1})
	checkNews(t, "barred on another way", h, 2, "t2-7", 20, nil)
	checkNews(t, "barred on another way", h, 1, "t1-6", 20, nil, brief{room: 1, state: []impl.Entry{entry(impl.EvMember, 2, 106)}, ids: []int64{106}, from: 6})
	h = putAll(t, h, event(107, 0, does(1, impl.EvMember, 2, impl.MbLeave), 105, 106), event(108, 0, joins(2), 107))
	checkNews(t, "let in again", h, 2, "t2-6", 20, nil, brief{room: 1, state: []impl.Entry{entry(impl.EvMember, 2, 108)}, ids: []int64{106, 107, 108}, from: 6})
	checkNews(t, "let in again", h, 2, "t2-7", 3, nil, brief{room: 1, state: impl.CurrentOf(h.Rooms[0]), ids: []int64{106, 107, 108}, gap: true, from: 6})
}

// What waits, and what is refused, is not told of, and takes no place.
func TestNotToldOf(t *testing.T) {
	h := lateRoom(t, says(7, 999), event(8, 0, topicOf(2, "no"), 105), event(9, 0, bars(2, 1), 105), event(10, 0, joins(3), 998))
	checkNews(t, "waits, or is refused", h, 2, "t2-6", 20, nil)
	checkNews(t, "waits, or is refused", h, 3, "t3-6", 20, nil)
	same(t, "no place", impl.Sync(h, 2, "t2-7", 20), impl.SyncOut{Code: impl.ErrRange})
	checkNews(t, "waits, or is refused", h, 2, "t2-3", 20, nil, brief{room: 1, state: impl.CurrentOf(h.Rooms[0]), ids: []int64{100, 101, 102, 104, 105}})
	h = putAll(t, h, saysAsAt(999, 2, "it comes", 105))
	out := checkNews(t, "it has come", h, 2, "t2-6", 20, nil, brief{room: 1, ids: []int64{999, 7}, from: 6})
	same(t, "whole", out.Parts[0].Events, []impl.Shown{{Event: saysAsAt(999, 2, "it comes", 105)}, {Event: says(7, 999)}})
	checkNews(t, "between the two", h, 2, "t2-7", 20, nil, brief{room: 1, ids: []int64{7}, from: 7})
	checkNews(t, "one of the two", h, 2, "t2-6", 1, nil, brief{room: 1, ids: []int64{7}, gap: true, from: 7})
}

func textsOf(p impl.Part) []string {
	var out []string
	for _, s := range p.Events {
		out = append(out, fmt.Sprint(s.Event.Id, s.Event.Text, s.Hidden))
	}
	return out
}

func TestToldOfWhatIsHidden(t *testing.T) {
	h := houseOf(openedAnd(saysAsAt(110, 2, "psst", 106), event(111, 0, hides(2, 110), 110), saysAsAt(112, 3, "and more", 111), event(113, 0, hides(3, 112), 112), event(114, 0, topicOf(1, "about"), 113), event(115, 0, hides(1, 114), 114), event(116, 0, hides(1, 106), 115), event(117, 0, joins(4), 116)))
	for since, want := range map[string][]string{
		// What was told with its text is not told again, only that it was hidden.
		"t3-8":  {"111false", "112true", "113false", "114true", "115false", "116false", "117false"},
		"t3-7":  {"110true", "111false", "112true", "113false", "114true", "115false", "116false", "117false"},
		"t3-14": {"117false"},
		"t3-11": {"114true", "115false", "116false", "117false"},
	} {
		same(t, since, textsOf(impl.Sync(h, 3, since, 20).Parts[0]), want)
	}
	// For who comes in later it was hidden ahead of its token, or behind that.
	for _, since := range []string{"", "t4-8", "t4-9", "t4-14"} {
		out := impl.Sync(h, 4, since, 9)
		same(t, since, textsOf(out.Parts[0]), []string{"106true", "110true", "111false", "112true", "113false", "114true", "115false", "116false", "117false"})
	}
	d := dice(2)
	checkTidings(t, "hidden", h, &d, 1, &tidingsTally{})
	// By way of what is refused, what hides may have come ahead of what it hides.
	h = houseOf(openedAnd(event(110, 0, topic(5), 106), event(111, 0, hides(1, 106), 110)))
	h.Stream[6], h.Stream[7] = h.Stream[7], h.Stream[6]
	same(t, "where they stand", []any{impl.HubRight(h), impl.PosOf(h, 1, 111), impl.PosOf(h, 1, 106)}, []any{true, int64(7), int64(8)})
	same(t, "hidden ahead of the token", textsOf(impl.Sync(h, 2, "t2-7", 20).Parts[0]), []string{"106true"})
	checkTidings(t, "hidden ahead", h, &d, 1, &tidingsTally{})
}

// Just limit Events, and one more.
func TestGaps(t *testing.T) {
	h := houseOf(talk(60), talk(60))
	begun := []impl.Entry{entry(impl.EvCreate, 0, 100), entry(impl.EvMember, 1, 101)}
	for limit := int64(1); limit <= 20; limit++ {
		other := brief{room: 2, state: begun, ids: upTo(160-limit, 159), gap: true, from: 120 - limit}
		checkTwo := func(many int64, gap bool) {
			t.Helper()
			out := impl.Sync(h, 1, impl.TokenText(1, 60-many), limit)
			one := brief{room: 1, ids: upTo(160-min(many, limit), 159), gap: gap, from: 60 - min(many, limit)}
			checkBriefs(t, fmt.Sprint(many, " for ", limit), out, one, other)
		}
		checkTwo(limit, false)
		checkTwo(limit+1, true)
		checkTwo(58, true)
		if limit > 1 {
			checkTwo(limit-1, false)
		}
		out := impl.Sync(h, 1, impl.TokenText(1, 120-limit), limit)
		checkBriefs(t, "in the second room", out, brief{room: 2, ids: upTo(160-limit, 159), from: 120 - limit})
		out = impl.Sync(h, 1, impl.TokenText(1, 119-limit), limit)
		checkBriefs(t, "one more in the second room", out, brief{room: 2, ids: upTo(160-limit, 159), gap: true, from: 120 - limit})
	}
	checkBriefs(t, "the last one", impl.Sync(h, 1, "t1-119", 20), brief{room: 2, ids: []int64{159}, from: 119})
	checkBriefs(t, "nothing", impl.Sync(h, 1, "t1-120", 20))
	same(t, "a place of no token", impl.Sync(h, 1, "t1-121", 20), impl.SyncOut{Code: impl.ErrSyntax})
}

func checkBriefs(t *testing.T, what string, out impl.SyncOut, want ...brief) {
	t.Helper()
	var got []brief
	for _, p := range out.Parts {
		got = append(got, brief{room: p.Room, state: p.State, ids: shownIds(p.Events), gap: p.Gap, from: p.From})
	}
	same(t, what, got, want)
	same(t, what+": left, next, and code", []any{len(out.Left), out.Next, out.Code}, []any{0, int64(impl.MaxStream), int64(impl.OK)})
}

// Places are those of the whole stream, through which the rooms come by turns.
func TestRoomsByTurns(t *testing.T) {
	h := impl.HubNew()
	for i := range 4 {
		for room := int64(impl.MaxRooms); room > 0; room-- {
			h = makeAll(t, h, inRoom(room, []impl.Event{begins(0), joins(1), topic(1), says(0)}[i]))
		}
	}
	all := func(room int64) []impl.Entry {
		return []impl.Entry{entry(impl.EvCreate, 0, 4-room), entry(impl.EvMember, 1, 7-room), entry(impl.EvTopic, 0, 10-room)}
	}
	checkNews(t, "by turns", h, 1, "", 20, nil, brief{room: 1, state: all(1), ids: []int64{3, 6, 9, 12}, from: 2}, brief{room: 2, state: all(2), ids: []int64{2, 5, 8, 11}, from: 1}, brief{room: 3, state: all(3), ids: []int64{1, 4, 7, 10}})
	checkNews(t, "by turns", h, 1, "t1-5", 3, nil, brief{room: 1, state: all(1), ids: []int64{6, 9, 12}, gap: true, from: 5}, brief{room: 2, state: all(2)[2:], ids: []int64{8, 11}, from: 7}, brief{room: 3, state: all(3)[2:], ids: []int64{7, 10}, from: 6})
	checkNews(t, "by turns", h, 1, "t1-9", 1, nil, brief{room: 1, ids: []int64{12}, from: 11}, brief{room: 2, ids: []int64{11}, from: 10}, brief{room: 3, ids: []int64{10}, from: 9})
	checkNews(t, "by turns", h, 1, "t1-10", 1, nil, brief{room: 1, ids: []int64{12}, from: 11}, brief{room: 2, ids: []int64{11}, from: 10})
	checkNews(t, "by turns", h, 1, "t1-11", 1, nil, brief{room: 1, ids: []int64{12}, from: 11})
	h = makeAll(t, h, inRoom(3, leaves(1)), inRoom(1, leaves(1)))
	checkNews(t, "two are left", h, 1, "t1-12", 20, []int64{1, 3})
	checkNews(t, "one is left", h, 1, "t1-13", 20, []int64{1})
	checkNews(t, "two are left, and one is not", h, 1, "t1-10", 20, []int64{1, 3}, brief{room: 2, ids: []int64{11}, from: 10})
	checkNews(t, "those in which it was", h, 1, "t1-4", 20, []int64{3}, brief{room: 2, state: all(2), ids: []int64{2, 5, 8, 11}, from: 1})
	checkNews(t, "gone", h, 1, "t1-14", 20, nil)
	d := dice(3)
	checkTidings(t, "by turns", h, &d, 1, &tidingsTally{})
}

// Where several faults meet, the first one is told, and nothing beside it.
func TestFaultsThatMeet(t *testing.T) {
	h, wrong := houseOf(openedAnd()), houseOf(openedAnd())
	wrong.Stream = wrong.Stream[1:]
	far, of := impl.TokenText(1, 8), impl.TokenText(2, 8)
	for _, ask := range []struct {
		h     impl.Hub
		user  int64
		since string
		limit int64
		code  int64
	}{
		{wrong, 0, letters(8001), 0, impl.ErrSize}, {h, 0, letters(8001), 21, impl.ErrSize}, {wrong, 1, letters(8001), 1, impl.ErrSize}, {h, 1, letters(8001), 0, impl.ErrSize}, {impl.Hub{}, 1, letters(8001), 1, impl.ErrSize},
		{wrong, 0, "q", 0, impl.ErrForm}, {wrong, 1, far, 20, impl.ErrForm}, {wrong, 1, "q", 20, impl.ErrForm}, {h, 0, "q", 20, impl.ErrForm}, {h, 7, far, 20, impl.ErrForm}, {h, 1, "q", 0, impl.ErrForm}, {h, 1, far, 21, impl.ErrForm},
		{h, 1, of, 20, impl.ErrSyntax}, {h, 1, far + " ", 20, impl.ErrSyntax}, {h, 1, "t1-121", 1, impl.ErrSyntax}, {h, 1, letters(8000), 1, impl.ErrSyntax},
		{h, 1, far, 1, impl.ErrRange}, {h, 2, of, 20, impl.ErrRange}, {h, 6, "t6-120", 20, impl.ErrRange}, {impl.HubNew(), 6, "t6-1", 20, impl.ErrRange},
	} {
		same(t, fmt.Sprintf("%d from %.10q on, %d", ask.user, ask.since, ask.limit), impl.Sync(ask.h, ask.user, ask.since, ask.limit), impl.SyncOut{Code: ask.code})
	}
	same(t, "the last place", impl.Sync(h, 1, "t1-7", 20), impl.SyncOut{Next: 7})
	for _, limit := range wrongLimits() {
		same(t, fmt.Sprint("limit ", limit), impl.Sync(h, 1, "", limit), impl.SyncOut{Code: impl.ErrForm})
	}
	same(t, "the least and the greatest limit", []int{len(impl.Sync(h, 1, "", 1).Parts[0].Events), len(impl.Sync(h, 1, "", 20).Parts[0].Events)}, []int{1, 7})
}

// fullHouses are as full as may be.
func fullHouses() []impl.Hub {
	h := houseOf(fullOfHides(), fullOfHides())
	for i := range int64(impl.MaxParked) {
		for room := range int64(impl.MaxRooms) {
			h.Rooms[room].Parked = append(h.Rooms[room].Parked, inRoom(room+1, event(500+i, 0, hides(1, 106), 499, 600+i)))
		}
	}
	wide := houseOf(openedAnd(), openedAnd(), openedAnd())
	for i := range wide.Rooms {
		for id := range int64(31) {
			wide.Rooms[i].Events = append(wide.Rooms[i].Events, inRoom(int64(i+1), event(200+id, id%3, []impl.Event{topic(1), sight(1, 1+id%3), bars(2, 3), gives(1, 3, id)}[(id+int64(i))%4], 106)))
		}
	}
	wide.Stream = modelCounted(wide.Rooms)
	slices.SortStableFunc(wide.Stream, func(a impl.Spot, b impl.Spot) int { return int(a.Id - b.Id) })
	return []impl.Hub{crowded(), h, wide}
}

func TestCrowdedTidings(t *testing.T) {
	d := dice(4)
	for i, h := range fullHouses() {
		checkTidings(t, fmt.Sprint("crowded ", i), h, &d, 12, &tidingsTally{})
	}
}

// However its goroutines run, and however many ask at once, the answer is the same, and none of them goes on behind it.
func TestToldTheSameByAll(t *testing.T) {
	before := runtime.NumGoroutine()
	for _, h := range append(fullHouses(), course(t, 2)) {
		handed, unchanged := handedHub(h)
		for user := int64(1); user <= 3; user++ {
			for _, since := range []string{"", impl.TokenText(user, 9), impl.TokenText(user, 40)} {
				checkSameByAll(t, handed, user, since)
			}
		}
		unchanged(t, "asked by all")
	}
	for range 1000 {
		if runtime.NumGoroutine() <= before {
			return
		}
		time.Sleep(time.Millisecond)
	}
	t.Errorf("goroutines go on: %d, and %d ahead of that", runtime.NumGoroutine(), before)
}

// checkSameByAll asks one after the other, by few and by many threads, and then many at once.
func checkSameByAll(t *testing.T, h impl.Hub, user int64, since string) {
	t.Helper()
	want := impl.Sync(h, user, since, 20)
	defer runtime.GOMAXPROCS(runtime.GOMAXPROCS(1))
	for _, threads := range []int{1, 2, 8} {
		runtime.GOMAXPROCS(threads)
		for range 10 {
			same(t, fmt.Sprint("by ", threads), impl.Sync(h, user, since, 20), want)
		}
	}
	var asked sync.WaitGroup
	for range 24 {
		asked.Go(func() { same(t, "at once", impl.Sync(h, user, since, 20), want) })
	}
	asked.Wait()
}

// What is told is new, and each call reads anew what is handed in.
func TestTidingsKeepNothing(t *testing.T) {
	h := houseOf(openedAnd(event(107, 0, saysAs(2, "or not"), 105, 106), event(108, 0, says(0), 106), event(109, 0, says(0), 106)), openedAnd())
	// That lists of what is handed in lie in the same memory does not show in what is told.
	one := []int64{106, 0}[:1]
	h.Rooms[0].Events[8].Prev, h.Rooms[0].Events[9].Prev, h.Rooms[1].Events[6].Prev = one, one, []int64{105}
	since := impl.TokenText(3, 0)
	out := impl.Sync(h, 3, since, 20)
	isNewMemory(t, "all of it", out, h, since)
	isNewMemory(t, "a token", impl.TokenText(3, 0), since)
	kept := impl.Sync(h, 3, since, 20)
	for i := range out.Parts {
		for j := range out.Parts[i].Events {
			for k := range out.Parts[i].Events[j].Event.Prev {
				out.Parts[i].Events[j].Event.Prev[k] = 77
			}
			out.Parts[i].Events[j].Event.Id = 77
		}
		for j := range out.Parts[i].State {
			out.Parts[i].State[j].Id = 77
		}
	}
	same(t, "told again", impl.Sync(h, 3, since, 20), kept)
	h.Rooms[0].Events[7].Text = "another text"
	same(t, "read anew", []string{impl.Sync(h, 3, "", 20).Parts[0].Events[7].Event.Text, kept.Parts[0].Events[7].Event.Text}, []string{"another text", "or not"})
	h.Rooms[0].Events[5].Author, h.Rooms[0].Events[5].Key = 4, 4
	same(t, "read anew", []int{len(impl.Sync(h, 3, "", 20).Parts), len(impl.Sync(h, 4, "", 20).Parts)}, []int{1, 1})
	h.Stream[0].Id = 99
	same(t, "no house any more", impl.Sync(h, 3, "", 20), impl.SyncOut{Code: impl.ErrForm})
}
