package tests

import (
	"fmt"
	"maps"
	"math"
	"reflect"
	"runtime"
	"slices"
	"sync"
	"testing"
	"time"

	"loop.example/g00683/impl"
)

// A model of the chapter, word by word, that goes through lists.

func modelSeenRight(s impl.Seen) bool {
	if s.Room < 1 || s.Room > 3 || !modelStateRight(s.State) || len(s.Events) > 120 {
		return false
	}
	for i, x := range s.Events {
		e := x.Event
		if e.Kind == impl.EvSay && e.Text == "" {
			e.Text = "any"
		}
		if !impl.EventRight(e) || slices.ContainsFunc(s.Events[:i], func(y impl.Shown) bool { return y.Event.Id == e.Id }) {
			return false
		}
	}
	for i, at := range s.Gaps {
		if at < 0 || at > int64(len(s.Events)) || i > 0 && at <= s.Gaps[i-1] {
			return false
		}
	}
	return true
}

func modelClientRight(c impl.Client) bool {
	if modelTokenRead(c.User, c.Since).Code != impl.OK {
		return false
	}
	for i, s := range c.Rooms {
		if !modelSeenRight(s) || i > 0 && s.Room <= c.Rooms[i-1].Room {
			return false
		}
	}
	return true
}

func modelSeenOf(c impl.Client, room int64) impl.Seen {
	if i := seenPlace(c.Rooms, room); i >= 0 && modelClientRight(c) {
		return twinSeen(c.Rooms[i])
	}
	return impl.Seen{}
}

func seenPlace(l []impl.Seen, room int64) int {
	return slices.IndexFunc(l, func(s impl.Seen) bool { return s.Room == room })
}

func modelTake(c impl.Client, s impl.SyncOut) impl.ClientOut {
	wrong := impl.ClientOut{Code: impl.ErrForm}
	since := modelTokenText(c.User, s.Next)
	if !modelClientRight(c) || s.Code != impl.OK || since == "" {
		return wrong
	}
	var l []impl.Seen
	for _, x := range c.Rooms {
		if !slices.Contains(s.Left, x.Room) {
			l = append(l, twinSeen(x))
		}
	}
	for _, p := range s.Parts {
		if seenPlace(l, p.Room) < 0 {
			l = append(l, impl.Seen{Room: p.Room})
			slices.SortFunc(l, func(a impl.Seen, b impl.Seen) int { return int(max(-9, min(a.Room, 9)) - max(-9, min(b.Room, 9))) })
		}
		x := &l[seenPlace(l, p.Room)]
		made := modelStateApply(x.State, p.State)
		if made.Code != impl.OK {
			return wrong
		}
		x.State = made.State
		if many := int64(len(x.Events)); p.Gap && !slices.Contains(x.Gaps, many) {
			x.Gaps = append(x.Gaps, many)
		}
		x.Events = append(x.Events, twinShown(p.Events)...)
	}
	out := impl.Client{User: c.User, Since: since, Rooms: l}
	if !modelClientRight(out) {
		return wrong
	}
	return impl.ClientOut{Client: out}
}

// Twins are the same in memory of their own; an empty list is none in them.

func twinShown(l []impl.Shown) []impl.Shown {
	var out []impl.Shown
	for _, s := range l {
		out = append(out, impl.Shown{Event: twinEvent(s.Event), Hidden: s.Hidden})
	}
	return out
}

func twinSeen(s impl.Seen) impl.Seen {
	return impl.Seen{Room: s.Room, State: append([]impl.Entry(nil), s.State...), Events: twinShown(s.Events), Gaps: append([]int64(nil), s.Gaps...)}
}

func twinClient(c impl.Client) impl.Client {
	out := impl.Client{User: c.User, Since: c.Since}
	for _, s := range c.Rooms {
		out.Rooms = append(out.Rooms, twinSeen(s))
	}
	return out
}

func twinAnswer(s impl.SyncOut) impl.SyncOut {
	out := impl.SyncOut{Left: append([]int64(nil), s.Left...), Next: s.Next, Code: s.Code}
	for _, p := range s.Parts {
		p.State, p.Events = append([]impl.Entry(nil), p.State...), twinShown(p.Events)
		out.Parts = append(out.Parts, p)
	}
	return out
}

// laid is the same list at the beginning of a longer one.
func laid[T any](l []T, behind T) []T {
	return append(slices.Clone(l), behind)[:len(l)]
}

// nextTo is what lies behind a list that was laid so.
func nextTo[T any](l []T) T {
	return l[:len(l)+1][len(l)]
}

func laidShown(l []impl.Shown) []impl.Shown {
	out := laid(l, impl.Shown{Event: impl.Event{Id: -5}})
	for i := range out {
		out[i].Event.Prev = laid(out[i].Event.Prev, -5)
	}
	return out
}

// shownNextTo is all that lies behind the lists of these; it is the same list for all that were laid.
func shownNextTo(l []impl.Shown) []any {
	out := []any{nextTo(l).Event.Id}
	for _, s := range l {
		out = append(out, nextTo(s.Event.Prev))
	}
	return out
}

// handedClient is the same client with lists that lie in longer ones, and what it must still be when a call has answered.
func handedClient(c impl.Client) (impl.Client, func(t *testing.T, what string)) {
	handed := impl.Client{User: c.User, Since: c.Since, Rooms: laid(c.Rooms, impl.Seen{Room: -5})}
	for i, s := range c.Rooms {
		handed.Rooms[i] = impl.Seen{Room: s.Room, State: laid(s.State, impl.Entry{Kind: -5}), Events: laidShown(s.Events), Gaps: laid(s.Gaps, -5)}
	}
	return handed, func(t *testing.T, what string) {
		t.Helper()
		same(t, what+": the client handed in", twinClient(handed), twinClient(c))
		same(t, what+": behind the rooms", nextTo(handed.Rooms).Room, int64(-5))
		for _, s := range handed.Rooms {
			checkBehind(t, what, append(shownNextTo(s.Events), nextTo(s.State).Kind, nextTo(s.Gaps)))
		}
	}
}

// handedAnswer likewise is what was told.
func handedAnswer(s impl.SyncOut) (impl.SyncOut, func(t *testing.T, what string)) {
	handed := impl.SyncOut{Parts: laid(s.Parts, impl.Part{Room: -5}), Left: laid(s.Left, -5), Next: s.Next, Code: s.Code}
	for i := range handed.Parts {
		p := &handed.Parts[i]
		p.State, p.Events = laid(p.State, impl.Entry{Kind: -5}), laidShown(p.Events)
	}
	return handed, func(t *testing.T, what string) {
		t.Helper()
		same(t, what+": the answer handed in", twinAnswer(handed), twinAnswer(s))
		checkBehind(t, what, []any{nextTo(handed.Parts).Room, nextTo(handed.Left)})
		for _, p := range handed.Parts {
			checkBehind(t, what, append(shownNextTo(p.Events), nextTo(p.State).Kind))
		}
	}
}

func checkBehind(t *testing.T, what string, l []any) {
	t.Helper()
	for _, x := range l {
		same(t, what+": what lies behind a list that is handed in", x, any(int64(-5)))
	}
}

// roomsToAsk are all rooms, and some that there are not.
func roomsToAsk() []int64 {
	return append(noRooms(), 1, 2, 3)
}

// checkClient asks a client, right or not, all that the chapter tells of it alone.
func checkClient(t *testing.T, what string, c impl.Client) bool {
	t.Helper()
	handed, unchanged := handedClient(c)
	right := impl.ClientRight(handed)
	same(t, what+": right", right, modelClientRight(c))
	for _, room := range roomsToAsk() {
		got := impl.SeenOf(handed, room)
		same(t, fmt.Sprint(what, ": of room ", room), got, modelSeenOf(c, room))
		isNewMemory(t, what, got, handed)
	}
	unchanged(t, what)
	return right
}

// checkTake holds what comes of an answer against the model.
func checkTake(t *testing.T, what string, c impl.Client, s impl.SyncOut) impl.ClientOut {
	t.Helper()
	handedC, unchangedC := handedClient(c)
	handedS, unchangedS := handedAnswer(s)
	got, want := impl.ClientTake(handedC, handedS), modelTake(c, s)
	if !reflect.DeepEqual(got, want) {
		t.Errorf("%s: of %+v, told %+v: got %+v, want %+v", what, c, s, got, want)
	}
	unchangedC(t, what)
	unchangedS(t, what)
	if got.Code == impl.OK {
		same(t, what+": stays right", impl.ClientRight(got.Client), true)
		isNewMemory(t, what, got, handedC, handedS)
	}
	return got
}

// checkNotTaken checks that nothing comes of an answer.
func checkNotTaken(t *testing.T, what string, c impl.Client, s impl.SyncOut) {
	t.Helper()
	same(t, what+": not taken", checkTake(t, what, c, s), impl.ClientOut{Code: impl.ErrForm})
}

// hearer is one who takes what is told of its own Since, one time in so many, and what it must hold by what the houses were.
type hearer struct {
	user   int64
	limit  int
	seldom int
	client impl.Client
	place  int64
	held   map[int64]impl.Seen
	gone   map[int64]bool
}

// hearers are some of each user: those who ask each time, for one, for 20 or for some; and those who seldom do.
func hearers() []*hearer {
	var out []*hearer
	for user := int64(1); user <= impl.MaxUsers; user++ {
		for _, x := range []hearer{{limit: 1, seldom: 1}, {limit: 20, seldom: 1}, {limit: 1, seldom: 3}, {seldom: 2}, {limit: 3, seldom: 9}, {limit: 20, seldom: 12}, {seldom: 20}} {
			x.user, x.client = user, impl.ClientNew(user).Client
			x.held, x.gone = map[int64]impl.Seen{}, map[int64]bool{}
			out = append(out, &x)
		}
	}
	return out
}

// hearTally counts of what kinds the rooms were that were put together.
type hearTally struct {
	asked, left, again, back, whole, gaps, twoGaps, hidden, changed, three, none int
}

func (count *hearTally) checkEnough(t *testing.T) {
	t.Helper()
	for i := range reflect.ValueOf(*count).NumField() {
		if reflect.ValueOf(*count).Field(i).Int() < 10 {
			t.Errorf("too few of one kind: %+v", *count)
		}
	}
}

// news are the Events that it sees in a room above a place.
func (l *hearer) news(x *tidings, room int64, above int64) []impl.Shown {
	var out []impl.Shown
	for i, at := range x.house.Stream {
		if int64(i+1) > above && at.Room == room && slices.Contains(x.visible[l.user][room], at.Id) {
			out = append(out, x.shown[at])
		}
	}
	return out
}

// must tells what it holds of a room when it has asked: by what one sees and what came, not by what it was told.
func (l *hearer) must(x *tidings, room int64, limit int, count *hearTally) {
	above, was := l.place, l.held[room]
	if !x.joinedAt(room, l.user, l.place) {
		above, was = 0, impl.Seen{}
		delete(l.held, room)
	}
	if !slices.Contains(x.roomsOf[l.user], room) {
		if was.Room != 0 {
			count.left++
			l.gone[room] = true
		}
		delete(l.held, room)
		return
	}
	fresh := l.news(x, room, above)
	if was.Room == 0 && l.gone[room] {
		count.again++
		l.gone[room] = false
	}
	if was.Room != 0 && slices.ContainsFunc(fresh, func(s impl.Shown) bool { return s.Event.Kind == impl.EvMember && s.Event.Key == l.user }) {
		count.back++
	}
	if many := len(fresh); many > limit {
		was.Gaps = append(was.Gaps, int64(len(was.Events)))
		fresh = fresh[many-limit:]
	}
	was.Room, was.State, was.Events = room, x.current[room], append(was.Events, fresh...)
	l.held[room] = was
}

// asks lets it take what is told of its Since, and looks what it holds then.
func (l *hearer) asks(t *testing.T, what string, x *tidings, limit int, count *hearTally) {
	t.Helper()
	told := impl.Sync(x.house, l.user, l.client.Since, int64(limit))
	out := checkTake(t, what, l.client, told)
	same(t, what+": it is taken", out.Code, int64(impl.OK))
	for room := int64(1); room <= impl.MaxRooms; room++ {
		l.must(x, room, limit, count)
	}
	l.client, l.place = out.Client, int64(len(x.house.Stream))
	want := impl.Client{User: l.user, Since: modelTokenText(l.user, l.place)}
	for _, room := range slices.Sorted(maps.Keys(l.held)) {
		want.Rooms = append(want.Rooms, l.held[room])
	}
	if !reflect.DeepEqual(l.client, want) {
		t.Errorf("%s: %d, told %+v, of %+v: got %+v, want %+v", what, l.user, told, x.house, l.client, want)
	}
	l.checkHeld(t, what, x, count)
}

// checkHeld is promise 12 by what it holds alone, and 13: of a room in which one is not, it is nothing.
func (l *hearer) checkHeld(t *testing.T, what string, x *tidings, count *hearTally) {
	t.Helper()
	var in []int64
	for _, s := range l.client.Rooms {
		in = append(in, s.Room)
		same(t, what+": how it stands", s.State, impl.CurrentOf(x.house.Rooms[s.Room-1]))
		checkRuns(t, fmt.Sprintf("%s: of room %d for %d", what, s.Room, l.user), shownIds(s.Events), s.Gaps, x.visible[l.user][s.Room])
	}
	same(t, what+": the rooms in which one is", in, x.roomsOf[l.user])
	for room := int64(1); room <= impl.MaxRooms; room++ {
		s := impl.SeenOf(l.client, room)
		same(t, what+": seen of one", s, l.held[room])
		count.add(x, s)
	}
	count.asked++
	if len(in) == impl.MaxRooms {
		count.three++
	}
	if len(in) == 0 {
		count.none++
	}
}

func (count *hearTally) add(x *tidings, s impl.Seen) {
	for many, holds := range map[*int]bool{
		&count.whole:   s.Room != 0 && len(s.Gaps) == 0,
		&count.gaps:    len(s.Gaps) > 0,
		&count.twoGaps: len(s.Gaps) > 1,
		&count.hidden:  slices.ContainsFunc(s.Events, func(e impl.Shown) bool { return e.Hidden }),
		// What was hidden since stays as it was told.
		&count.changed: slices.ContainsFunc(s.Events, func(e impl.Shown) bool {
			return !e.Hidden && x.shown[impl.Spot{Room: s.Room, Id: e.Event.Id}].Hidden
		}),
	} {
		if holds {
			*many++
		}
	}
}

// checkRuns checks that what is held is all that one sees, in order, but for something at each gap.
func checkRuns(t *testing.T, what string, ids []int64, gaps []int64, visible []int64) {
	t.Helper()
	if len(gaps) == 0 {
		same(t, what+": all of it", ids, visible)
	}
	at := 0
	for i, id := range ids {
		next := slices.Index(visible, id)
		if gap := slices.Contains(gaps, int64(i)); next < at || gap != (next > at) {
			t.Errorf("%s: %d of %v, with gaps at %v, of %v", what, id, ids, gaps, visible)
		}
		at = next + 1
	}
	same(t, what+": up to the last one", at, len(visible))
}

// askSome lets each ask, or not.
func askSome(t *testing.T, what string, d *dice, h impl.Hub, all []*hearer, count *hearTally) {
	t.Helper()
	x := tidingsOf(h)
	for _, l := range all {
		if d.below(l.seldom) > 0 {
			continue
		}
		limit := l.limit
		if limit == 0 {
			limit = 1 + d.below(20)
		}
		l.asks(t, what, x, limit, count)
	}
}

// comesOrGoes lets someone come, go, be thrown out or asked in, if that is not refused.
func comesOrGoes(h impl.Hub, d *dice) impl.Hub {
	user := int64(1 + d.below(5))
	e := []impl.Event{joins(user), joins(user), joins(user), leaves(user), bars(1, user), does(1, impl.EvMember, user, impl.MbLeave), asks(1, user), saysAs(user, "so")}[d.below(8)]
	if out := impl.HubMake(h, inRoom(int64(1+d.below(impl.MaxRooms)), e)); out.Code == impl.OK {
		return out.Hub
	}
	return h
}

// saysOrHides lets 1 say something, or hide the last that was said in a room, if that is not refused.
func saysOrHides(h impl.Hub, d *dice) impl.Hub {
	room := int64(1 + d.below(impl.MaxRooms))
	e := saysAs(1, "psst")
	for _, said := range h.Rooms[room-1].Events {
		if said.Kind == impl.EvSay && d.below(2) == 0 {
			e = hides(1, said.Id)
		}
	}
	if out := impl.HubMake(h, inRoom(room, e)); out.Code == impl.OK {
		return out.Hub
	}
	return h
}

// Promises 12 and 13, in houses to which all comes in no order, and in which some happens.
func TestPutTogetherFromDrawnHouses(t *testing.T) {
	d := dice(12)
	count := hearTally{}
	for range 3 {
		h, all := impl.HubNew(), hearers()
		askSome(t, "a new house", &d, h, all, &count)
		for i, e := range drawnEvents(&d, 8, 8) {
			if out := impl.HubPut(h, e); out.Code == impl.OK {
				h = out.Hub
			}
			for range d.below(1 + i/8) {
				h = look(h, &d)
			}
			askSome(t, "drawn", &d, h, all, &count)
		}
		for range 20 {
			h = way(saysOrHides(comesOrGoes(h, &d), &d), &d)
			askSome(t, "drawn ways", &d, h, all, &count)
		}
	}
	count.checkEnough(t)
}

// Promises 12 and 13, at every place of a stream in which many come and go.
func TestPutTogetherPlaceByPlace(t *testing.T) {
	d := dice(13)
	count := hearTally{}
	for range 3 {
		h, all := impl.HubNew(), hearers()
		for room := range int64(impl.MaxRooms) {
			h = makeAll(t, h, inRoom(room+1, begins(0)), inRoom(room+1, joins(1)), inRoom(room+1, door(1, 1)), inRoom(room+1, sight(1, 1+room)))
		}
		for range 90 {
			many := len(h.Stream)
			h = comesOrGoes(h, &d)
			switch d.below(4) {
			case 0:
				h = look(h, &d)
			case 1:
				h = saysOrHides(h, &d)
			}
			if len(h.Stream) > many {
				askSome(t, "place by place", &d, h, all, &count)
			}
		}
	}
	count.checkEnough(t)
}

// Promise 12, where ways part and meet all the time, and most is seen only by who was in then.
func TestPutTogetherWhereWaysMeet(t *testing.T) {
	d := dice(1212)
	count := hearTally{}
	for range 2 {
		h, all := impl.HubNew(), hearers()
		for room := range int64(impl.MaxRooms) {
			for _, e := range lateEvents() {
				h = putAll(t, h, inRoom(room+1, e))
			}
			askSome(t, "beginning", &d, h, all, &count)
		}
		for i := range 50 {
			h = way(h, &d)
			if i%4 == 0 {
				h = comesOrGoes(h, &d)
			}
			askSome(t, "where ways meet", &d, h, all, &count)
		}
	}
	if count.left < 3 || count.back < 3 || count.twoGaps < 10 || count.whole < 10 {
		t.Errorf("too few of one kind: %+v", count)
	}
}

// From each place of one stream on, one who begins there takes the rest by steps.
func TestPutTogetherFromAnyPlace(t *testing.T) {
	d := dice(120)
	var steps []impl.Hub
	for h := makeAll(t, course(t, 3), joins(2), leaves(5), joins(5), bars(1, 2)); len(h.Stream) > 0; h = shorter(h) {
		steps = append(steps, h)
	}
	slices.Reverse(steps)
	count := hearTally{}
	for from := range steps {
		all := hearers()
		for _, h := range steps[from:] {
			if d.below(4) == 0 {
				askSome(t, "from some place on", &d, h, all, &count)
			}
		}
		askSome(t, "at the end", &d, steps[len(steps)-1], all, &count)
	}
}

// shorter is a house of which all stands in one row, without the last that came.
func shorter(h impl.Hub) impl.Hub {
	out := twinHub(h)
	last := out.Stream[len(out.Stream)-1]
	out.Stream = out.Stream[:len(out.Stream)-1]
	g := &out.Rooms[last.Room-1]
	g.Events = slices.Delete(g.Events, placeOf(g.Events, last.Id), placeOf(g.Events, last.Id)+1)
	return out
}

// takes lets a client take what is told of its own Since.
func takes(t *testing.T, h impl.Hub, c impl.Client, limit int64) impl.Client {
	t.Helper()
	out := checkTake(t, "takes", c, impl.Sync(h, c.User, c.Since, limit))
	same(t, "it is taken", out.Code, int64(impl.OK))
	return out.Client
}

// checkHolds holds a client against what is written out: the place of its token, and of room 1 which Events with which gaps; without Ids, no room.
func checkHolds(t *testing.T, what string, h impl.Hub, c impl.Client, place int64, ids []int64, gaps ...int64) {
	t.Helper()
	want := impl.Client{User: c.User, Since: impl.TokenText(c.User, place)}
	if len(ids) > 0 {
		seen := impl.Seen{Room: 1, State: impl.CurrentOf(h.Rooms[0]), Gaps: gaps}
		for _, id := range ids {
			seen.Events = append(seen.Events, impl.ShownOf(h, 1, id))
		}
		want.Rooms = []impl.Seen{seen}
	}
	same(t, what, c, want)
	checkClient(t, what, c)
}

// Promise 13, written out: one comes, leaves, comes again, is thrown out, and comes once more.
func TestOneComesAndGoesAgain(t *testing.T) {
	h := makeAll(t, impl.HubNew(), begins(0), joins(1), door(1, 1))
	all, few := takes(t, h, impl.ClientNew(2).Client, 20), takes(t, h, impl.ClientNew(2).Client, 2)
	checkHolds(t, "not in", h, all, 3, nil)
	h = makeAll(t, h, joins(2), saysAs(2, "here"))
	all, few = takes(t, h, all, 20), takes(t, h, few, 2)
	checkHolds(t, "come in", h, all, 5, upTo(1, 5))
	checkHolds(t, "come in", h, few, 5, []int64{4, 5}, 0)
	h = makeAll(t, h, saysAs(1, "more"), topicOf(1, "about"), saysAs(2, "and more"))
	all, few = takes(t, h, all, 20), takes(t, h, few, 2)
	checkHolds(t, "three more", h, all, 8, upTo(1, 8))
	checkHolds(t, "two of three more", h, few, 8, []int64{4, 5, 7, 8}, 0, 2)
	h = makeAll(t, h, saysAs(1, "one"))
	all, few = takes(t, h, all, 20), takes(t, h, few, 2)
	checkHolds(t, "one more", h, few, 9, []int64{4, 5, 7, 8, 9}, 0, 2)
	h = makeAll(t, h, leaves(2))
	all, few = takes(t, h, all, 20), takes(t, h, few, 2)
	checkHolds(t, "left", h, all, 10, nil)
	checkHolds(t, "left", h, few, 10, nil)
	h = makeAll(t, h, joins(2))
	all, few = takes(t, h, all, 20), takes(t, h, few, 2)
	checkHolds(t, "come again", h, all, 11, upTo(1, 11))
	checkHolds(t, "come again", h, few, 11, []int64{10, 11}, 0)
	h = makeAll(t, h, bars(1, 2))
	all, few = takes(t, h, all, 20), takes(t, h, few, 2)
	checkHolds(t, "thrown out", h, all, 12, nil)
	checkHolds(t, "thrown out", h, few, 12, nil)
	h = makeAll(t, h, does(1, impl.EvMember, 2, impl.MbLeave), joins(2))
	all, few = takes(t, h, all, 20), takes(t, h, few, 2)
	checkHolds(t, "come once more", h, all, 14, upTo(1, 14))
	checkHolds(t, "come once more", h, few, 14, []int64{13, 14}, 0)
	// Gone and back between two looks, it goes on where it was.
	h = makeAll(t, h, leaves(2), saysAs(1, "gone?"), joins(2))
	all, few = takes(t, h, all, 20), takes(t, h, few, 2)
	checkHolds(t, "back", h, all, 17, upTo(1, 17))
	checkHolds(t, "back", h, few, 17, []int64{13, 14, 16, 17}, 0, 2)
	checkHolds(t, "nothing new", h, takes(t, h, few, 1), 17, []int64{13, 14, 16, 17}, 0, 2)
}

// What is hidden was heard with its text, or without, by when it was told.
func TestHeardAheadOfBeingHidden(t *testing.T) {
	h := makeAll(t, impl.HubNew(), begins(0), joins(1), saysAs(1, "psst"), topicOf(1, "about"))
	early := takes(t, h, impl.ClientNew(1).Client, 20)
	h = makeAll(t, h, hides(1, 3), hides(1, 4))
	early, late := takes(t, h, early, 20), takes(t, h, impl.ClientNew(1).Client, 20)
	heard := func(c impl.Client) []string {
		return textsOf(impl.Part{Events: impl.SeenOf(c, 1).Events})
	}
	same(t, "early", heard(early), []string{"1false", "2false", "3psstfalse", "4aboutfalse", "5false", "6false"})
	same(t, "late", heard(late), []string{"1false", "2false", "3true", "4true", "5false", "6false"})
	same(t, "both are right", []bool{checkClient(t, "early", early), checkClient(t, "late", late)}, []bool{true, true})
	same(t, "how it stands", impl.SeenOf(early, 1).State, impl.SeenOf(late, 1).State)
}

// Promise 13: one begins with nothing.
func TestNewClients(t *testing.T) {
	for user := int64(1); user <= impl.MaxUsers; user++ {
		out := impl.ClientNew(user)
		same(t, "new", out, impl.ClientOut{Client: impl.Client{User: user}})
		same(t, "right", checkClient(t, "new", out.Client), true)
		for _, room := range roomsToAsk() {
			same(t, "nothing", impl.SeenOf(out.Client, room), impl.Seen{})
		}
		same(t, "nothing is told", checkTake(t, "nothing", out.Client, impl.SyncOut{}).Client, impl.Client{User: user, Since: impl.TokenText(user, 0)})
		same(t, "a new house", takes(t, impl.HubNew(), out.Client, 1), impl.Client{User: user, Since: impl.TokenText(user, 0)})
	}
	for _, user := range []int64{0, 7, -1, 8, math.MinInt64, math.MaxInt64} {
		same(t, fmt.Sprint("no user ", user), impl.ClientNew(user), impl.ClientOut{Code: impl.ErrForm})
	}
}

// heardEvents are right, but for the text of the third.
func heardEvents(room int64) []impl.Shown {
	l := []impl.Shown{{Event: begins(4)}, {Event: event(9, 3, saysAs(2, "hi @2"), 2, 4)}, {Event: event(7, 5, saysAs(6, ""), 9), Hidden: true}, {Event: event(8, impl.MaxTime, topicOf(1, ""), 1, 3, 5, 7), Hidden: true}, {Event: event(impl.MaxTime, 0, hides(3, 7), 8)}}
	for i := range l {
		l[i].Event = inRoom(room, l[i].Event)
	}
	return l
}

// someClient holds rooms 1 and 3.
func someClient() impl.Client {
	return impl.Client{User: 2, Since: "t2-7", Rooms: []impl.Seen{
		{Room: 1, State: someState(), Events: heardEvents(1), Gaps: []int64{0, 2, 5}},
		{Room: 3, State: []impl.Entry{entry(impl.EvCreate, 0, 4)}, Events: heardEvents(3)[:4], Gaps: []int64{1}},
	}}
}

// heardMany are so many Events, of Ids from 10 on.
func heardMany(many int) []impl.Shown {
	var l []impl.Shown
	for i := range many {
		l = append(l, impl.Shown{Event: event(int64(10+i), 0, saysAs(1, "so"), 9)})
	}
	return l
}

func TestRightClients(t *testing.T) {
	for name, change := range map[string]func(c *impl.Client){
		"as it is":                    func(c *impl.Client) {},
		"no token":                    func(c *impl.Client) { c.Since = "" },
		"the first place":             func(c *impl.Client) { c.Since = "t2-0" },
		"the last place":              func(c *impl.Client) { c.Since = "t2-120" },
		"another user":                func(c *impl.Client) { c.User, c.Since = 6, "t6-7" },
		"no rooms":                    func(c *impl.Client) { c.Rooms = nil },
		"an empty list of rooms":      func(c *impl.Client) { c.Rooms = []impl.Seen{} },
		"one room":                    func(c *impl.Client) { c.Rooms = c.Rooms[1:] },
		"another room":                func(c *impl.Client) { c.Rooms[1].Room = 2 },
		"all rooms":                   func(c *impl.Client) { c.Rooms = slices.Insert(c.Rooms, 1, impl.Seen{Room: 2}) },
		"a room with nothing":         func(c *impl.Client) { c.Rooms[0] = impl.Seen{Room: 1} },
		"no state":                    func(c *impl.Client) { c.Rooms[0].State = nil },
		"the greatest state":          func(c *impl.Client) { d := dice(1); c.Rooms[1].State = drawnState(&d, 10) },
		"no Events":                   func(c *impl.Client) { c.Rooms[0].Events, c.Rooms[0].Gaps = nil, []int64{0} },
		"no gaps":                     func(c *impl.Client) { c.Rooms[0].Gaps = []int64{} },
		"a gap ahead of all":          func(c *impl.Client) { c.Rooms[0].Gaps = []int64{0} },
		"a gap behind all":            func(c *impl.Client) { c.Rooms[0].Gaps = []int64{5} },
		"gaps all over":               func(c *impl.Client) { c.Rooms[0].Gaps = upTo(0, 5) },
		"MaxStream Events":            func(c *impl.Client) { c.Rooms[0].Events = heardMany(impl.MaxStream) },
		"MaxStream in two rooms":      func(c *impl.Client) { c.Rooms[0].Events, c.Rooms[1].Events = heardMany(120), heardMany(120) },
		"MaxStream with all gaps":     func(c *impl.Client) { c.Rooms[0].Events, c.Rooms[0].Gaps = heardMany(120), upTo(0, 120) },
		"Events of another room":      func(c *impl.Client) { c.Rooms[0].Events = heardEvents(2) },
		"Ids that fall":               func(c *impl.Client) { slices.Reverse(c.Rooms[0].Events) },
		"a text that is hidden":       func(c *impl.Client) { c.Rooms[0].Events[1].Hidden = true },
		"no text that is not":         func(c *impl.Client) { c.Rooms[0].Events[2].Hidden = false },
		"no topic that is not":        func(c *impl.Client) { c.Rooms[0].Events[3].Hidden = false },
		"an Event of a kind is shown": func(c *impl.Client) { c.Rooms[0].Events[0].Hidden = true },
		"the longest text":            func(c *impl.Client) { c.Rooms[0].Events[1].Event.Text = letters(impl.MaxText) },
	} {
		c := someClient()
		change(&c)
		same(t, name, checkClient(t, name, c), true)
		out := checkTake(t, name, c, impl.SyncOut{Next: 9})
		same(t, name+": nothing is new", out.Code, int64(impl.OK))
		out.Client.Since = c.Since
		same(t, name+": it stays as it is", out.Client, twinClient(c))
	}
	for _, e := range rightEvents() {
		c := impl.Client{User: 1, Rooms: []impl.Seen{{Room: 1, Events: []impl.Shown{{Event: e}}}}}
		same(t, fmt.Sprintf("%+v", e), checkClient(t, "one Event", c), true)
		e.Text = ""
		c.Rooms[0].Events[0].Event = e
		same(t, fmt.Sprintf("without a text: %+v", e), checkClient(t, "one Event", c), true)
	}
}

// checkNoClient checks that each call refuses a client, whatever it is told.
func checkNoClient(t *testing.T, what string, c impl.Client) {
	t.Helper()
	same(t, what+": right", checkClient(t, what, c), false)
	for _, room := range roomsToAsk() {
		same(t, what+": nothing of it", impl.SeenOf(c, room), impl.Seen{})
	}
	for _, s := range []impl.SyncOut{
		{}, {Next: 7}, {Next: -1}, {Next: 121}, {Code: impl.ErrForm}, {Code: impl.ErrSize, Next: 3}, {Left: []int64{1, 2, 3}, Next: 120}, {Left: upTo(-1, 5)},
		{Parts: []impl.Part{{Room: 2, Events: heardEvents(2)}}, Next: 8}, {Parts: []impl.Part{{Room: 1, State: someState()}, {Room: 5}}},
	} {
		checkNotTaken(t, what, c, s)
	}
}

func wrongEvents() map[string]func(e *impl.Event) {
	return map[string]func(e *impl.Event){
		"the zero one":           func(e *impl.Event) { *e = impl.Event{} },
		"without a text, no Key": func(e *impl.Event) { e.Text, e.Key = "", 2 },
		"without a text, no N":   func(e *impl.Event) { e.Text, e.N = "", 2 },
		"without a text, no Id":  func(e *impl.Event) { e.Text, e.Id = "", 0 },
		"without a text or Prev": func(e *impl.Event) { e.Text, e.Prev = "", nil },
		"behind itself":          func(e *impl.Event) { e.Text, e.Prev = "", []int64{e.Id} },
		"no Id":                  func(e *impl.Event) { e.Id = 0 },
		"an Id too great":        func(e *impl.Event) { e.Id = impl.MaxTime + 1 },
		"no room":                func(e *impl.Event) { e.Room = 0 },
		"a room too great":       func(e *impl.Event) { e.Room = 4 },
		"no author":              func(e *impl.Event) { e.Author = 0 },
		"an author too great":    func(e *impl.Event) { e.Author = 7 },
		"no kind":                func(e *impl.Event) { e.Kind = 0 },
		"a kind too great":       func(e *impl.Event) { e.Kind = 9 },
		"a kind too great, mute": func(e *impl.Event) { e.Kind, e.Text = 9, "" },
		"a text too long":        func(e *impl.Event) { e.Text = letters(impl.MaxText + 1) },
		"a text far too long":    func(e *impl.Event) { e.Text = letters(impl.MaxBytes + 1) },
		"a time too early":       func(e *impl.Event) { e.Time = -1 },
		"a time too late":        func(e *impl.Event) { e.Time = impl.MaxTime + 1 },
		"Prev that fall":         func(e *impl.Event) { e.Prev = []int64{4, 2} },
		"a Prev twice":           func(e *impl.Event) { e.Prev = []int64{2, 2} },
		"too many Prev":          func(e *impl.Event) { e.Prev = upTo(1, 5) },
		"very many Prev":         func(e *impl.Event) { e.Prev = upTo(100, 100+impl.MaxList) },
		"a topic too long":       func(e *impl.Event) { e.Kind, e.Text = impl.EvTopic, letters(impl.MaxText+1) },
		"a topic with a Key":     func(e *impl.Event) { e.Kind, e.Text, e.Key = impl.EvTopic, "", 1 },
		"a door that speaks":     func(e *impl.Event) { e.Kind, e.N = impl.EvDoor, 1 },
		"a door of no way":       func(e *impl.Event) { e.Kind, e.N, e.Text = impl.EvDoor, 3, "" },
		"a beginning behind one": func(e *impl.Event) { e.Kind, e.Text = impl.EvCreate, "" },
		"one hides nothing":      func(e *impl.Event) { e.Kind, e.Text = impl.EvHide, "" },
		"one who does nothing":   func(e *impl.Event) { e.Kind, e.Text, e.Key = impl.EvMember, "", 1 },
	}
}

func TestWrongClients(t *testing.T) {
	for name, change := range map[string]func(c *impl.Client){
		"nothing":                   func(c *impl.Client) { *c = impl.Client{} },
		"no user":                   func(c *impl.Client) { c.User = 0 },
		"no user, no token":         func(c *impl.Client) { c.User, c.Since = 0, "" },
		"no user, and its token":    func(c *impl.Client) { c.User, c.Since = 0, "t0-7" },
		"a user too great":          func(c *impl.Client) { c.User, c.Since = 7, "t7-7" },
		"a user too great, new":     func(c *impl.Client) { *c = impl.Client{User: 7} },
		"a user below":              func(c *impl.Client) { c.User, c.Since = -2, "t-2-7" },
		"the least user":            func(c *impl.Client) { c.User, c.Since = math.MinInt64, "" },
		"the greatest user":         func(c *impl.Client) { c.User, c.Since = math.MaxInt64, "" },
		"a token of another one":    func(c *impl.Client) { c.User = 3 },
		"a token of user 1":         func(c *impl.Client) { c.Since = "t1-7" },
		"a room of 0":               func(c *impl.Client) { c.Rooms[0].Room = 0 },
		"a room of 4":               func(c *impl.Client) { c.Rooms[1].Room = 4 },
		"the least room":            func(c *impl.Client) { c.Rooms[0].Room = math.MinInt64 },
		"the greatest room":         func(c *impl.Client) { c.Rooms[1].Room = math.MaxInt64 },
		"a room of no number":       func(c *impl.Client) { c.Rooms = slices.Insert(c.Rooms, 0, impl.Seen{}) },
		"a room twice":              func(c *impl.Client) { c.Rooms[0].Room = 3 },
		"a room twice at the end":   func(c *impl.Client) { c.Rooms = append(c.Rooms, impl.Seen{Room: 3}) },
		"rooms that fall":           func(c *impl.Client) { slices.Reverse(c.Rooms) },
		"one between that does not": func(c *impl.Client) { c.Rooms = append(c.Rooms, impl.Seen{Room: 2}) },
		"four rooms":                func(c *impl.Client) { c.Rooms = []impl.Seen{{Room: 1}, {Room: 2}, {Room: 3}, {Room: 4}} },
		"very many rooms":           func(c *impl.Client) { c.Rooms = slices.Repeat(c.Rooms, impl.MaxList) },
		"one Event too many":        func(c *impl.Client) { c.Rooms[0].Events = heardMany(impl.MaxStream + 1) },
		"very many Events":          func(c *impl.Client) { c.Rooms[1].Events = heardMany(5000) },
		"one Event twice":           func(c *impl.Client) { c.Rooms[0].Events[2] = c.Rooms[0].Events[1] },
		"an Id twice":               func(c *impl.Client) { c.Rooms[0].Events[1].Event.Id = 7 },
		"the last twice":            func(c *impl.Client) { c.Rooms[1].Events = append(c.Rooms[1].Events, c.Rooms[1].Events[0]) },
		"all twice":                 func(c *impl.Client) { c.Rooms[1].Events = slices.Repeat(c.Rooms[1].Events, 2) },
		"a gap below 0":             func(c *impl.Client) { c.Rooms[0].Gaps[0] = -1 },
		"the least gap":             func(c *impl.Client) { c.Rooms[0].Gaps[0] = math.MinInt64 },
		"a gap too far":             func(c *impl.Client) { c.Rooms[0].Gaps[2] = 6 },
		"the greatest gap":          func(c *impl.Client) { c.Rooms[0].Gaps[2] = math.MaxInt64 },
		"a gap of no Events":        func(c *impl.Client) { c.Rooms[1].Events = nil },
		"a gap twice":               func(c *impl.Client) { c.Rooms[0].Gaps[1] = 0 },
		"the last gap twice":        func(c *impl.Client) { c.Rooms[0].Gaps[1] = 5 },
		"gaps that fall":            func(c *impl.Client) { slices.Reverse(c.Rooms[0].Gaps) },
		"very many gaps":            func(c *impl.Client) { c.Rooms[0].Gaps = slices.Repeat(upTo(0, 5), impl.MaxList) },
	} {
		c := someClient()
		change(&c)
		checkNoClient(t, name, c)
	}
	for i, s := range append(wrongStates(), make([]impl.Entry, impl.MaxList+1)) {
		for room := range 2 {
			c := someClient()
			c.Rooms[room].State = s
			checkNoClient(t, fmt.Sprint("state ", i), c)
		}
	}
	for name, change := range wrongEvents() {
		for room := range 2 {
			c := someClient()
			change(&c.Rooms[room].Events[1].Event)
			checkNoClient(t, name, c)
		}
	}
	for _, since := range append(notTokens(), letters(impl.MaxBytes+1), "t2-7"+letters(impl.MaxBytes)) {
		checkNoClient(t, fmt.Sprintf("since %.20q", since), impl.Client{User: 2, Since: since, Rooms: someClient().Rooms})
	}
}

// What comes of a right answer, written out.
func TestTaken(t *testing.T) {
	c := someClient()
	one, three := c.Rooms[0], c.Rooms[1]
	late := impl.Shown{Event: event(500, 0, saysAs(1, "late"), 9)}
	later := impl.Shown{Event: event(400, 0, saysAs(1, ""), 500), Hidden: true}
	about := entry(impl.EvTopic, 0, 8)
	begun := entry(impl.EvCreate, 0, 4)
	check := func(what string, s impl.SyncOut, rooms ...impl.Seen) {
		t.Helper()
		want := impl.Client{User: 2, Since: impl.TokenText(2, s.Next), Rooms: rooms}
		same(t, what, checkTake(t, what, c, s), impl.ClientOut{Client: want})
	}
	check("nothing", impl.SyncOut{}, one, three)
	check("the last place", impl.SyncOut{Next: impl.MaxStream}, one, three)
	check("a room is left", impl.SyncOut{Left: []int64{1}, Next: 3}, three)
	check("the other one", impl.SyncOut{Left: []int64{3}}, one)
	check("both", impl.SyncOut{Left: []int64{1, 3}})
	check("both, twice, and others", impl.SyncOut{Left: []int64{3, 2, 0, 1, 1, -9, 4, 3, math.MaxInt64, math.MinInt64}})
	check("one that it does not have", impl.SyncOut{Left: []int64{2}}, one, three)
	check("very many", impl.SyncOut{Left: slices.Repeat([]int64{2, 4}, 5000)}, one, three)

	more := impl.Seen{Room: 3, State: []impl.Entry{begun, about}, Events: append(heardEvents(3)[:4], late, later), Gaps: []int64{1, 4}}
	part := impl.Part{Room: 3, State: []impl.Entry{about}, Events: []impl.Shown{late, later}, Gap: true, From: 77}
	check("a part with a gap", impl.SyncOut{Parts: []impl.Part{part}, Next: 9}, one, more)
	part.Gap, more.Gaps = false, []int64{1}
	check("a part without one", impl.SyncOut{Parts: []impl.Part{part}, Next: 9}, one, more)
	check("and the other is left", impl.SyncOut{Parts: []impl.Part{part}, Left: []int64{1}, Next: 9}, more)
	check("a gap alone", impl.SyncOut{Parts: []impl.Part{{Room: 3, Gap: true}}}, one, impl.Seen{Room: 3, State: three.State, Events: three.Events, Gaps: []int64{1, 4}})
	check("a gap that is there", impl.SyncOut{Parts: []impl.Part{{Room: 1, Gap: true, Events: []impl.Shown{late}}}}, impl.Seen{Room: 1, State: one.State, Events: append(heardEvents(1), late), Gaps: []int64{0, 2, 5}}, three)
	check("an empty part", impl.SyncOut{Parts: []impl.Part{{Room: 1}, {Room: 3, From: -5}}}, one, three)
	check("a new room in its place", impl.SyncOut{Parts: []impl.Part{{Room: 2, State: []impl.Entry{begun}, Events: []impl.Shown{later}, Gap: true}}}, one, impl.Seen{Room: 2, State: []impl.Entry{begun}, Events: []impl.Shown{later}, Gaps: []int64{0}}, three)
	check("a new room with nothing", impl.SyncOut{Parts: []impl.Part{{Room: 2}}}, one, impl.Seen{Room: 2}, three)
	check("what is taken out of the state", impl.SyncOut{Parts: []impl.Part{{Room: 3, State: []impl.Entry{entry(impl.EvCreate, 0, 0), entry(impl.EvMember, 5, 0)}}}}, one, impl.Seen{Room: 3, Events: three.Events, Gaps: []int64{1}})

	check("left, and told of", impl.SyncOut{Parts: []impl.Part{part}, Left: []int64{3}}, one, impl.Seen{Room: 3, State: []impl.Entry{about}, Events: []impl.Shown{late, later}})
	part.Gap = true
	check("left, and told of with a gap", impl.SyncOut{Parts: []impl.Part{part}, Left: []int64{3, 3}}, one, impl.Seen{Room: 3, State: []impl.Entry{about}, Events: []impl.Shown{late, later}, Gaps: []int64{0}})
	check("what is there already, but left", impl.SyncOut{Parts: []impl.Part{{Room: 1, Events: heardEvents(1)}}, Left: []int64{1}}, impl.Seen{Room: 1, Events: heardEvents(1)}, three)
	check("what is there, in another room", impl.SyncOut{Parts: []impl.Part{{Room: 2, Events: heardEvents(1)}}}, one, impl.Seen{Room: 2, Events: heardEvents(1)}, three)

	two := []impl.Part{{Room: 3, State: []impl.Entry{about}, Events: []impl.Shown{late}, Gap: true}, {Room: 1, State: []impl.Entry{about}}, {Room: 3, State: []impl.Entry{entry(impl.EvTopic, 0, 9)}, Events: []impl.Shown{later}, Gap: true}}
	oneMore := impl.Seen{Room: 1, State: withEntry(someState(), about), Events: one.Events, Gaps: one.Gaps}
	check("two of one room", impl.SyncOut{Parts: two}, oneMore, impl.Seen{Room: 3, State: []impl.Entry{begun, entry(impl.EvTopic, 0, 9)}, Events: append(heardEvents(3)[:4], late, later), Gaps: []int64{1, 4, 5}})
	slices.Reverse(two)
	check("the other way round", impl.SyncOut{Parts: two}, oneMore, impl.Seen{Room: 3, State: []impl.Entry{begun, about}, Events: append(heardEvents(3)[:4], later, late), Gaps: []int64{1, 4, 5}})
	check("two gaps in one place", impl.SyncOut{Parts: []impl.Part{{Room: 2, Gap: true}, {Room: 2, Gap: true}, {Room: 2, Events: []impl.Shown{late}}, {Room: 2, Gap: true}}}, one, impl.Seen{Room: 2, Events: []impl.Shown{late}, Gaps: []int64{0, 1}}, three)
	check("rooms that fall", impl.SyncOut{Parts: []impl.Part{{Room: 3}, {Room: 2}, {Room: 1}}, Left: []int64{3, 1}}, impl.Seen{Room: 1}, impl.Seen{Room: 2}, impl.Seen{Room: 3})
	check("just MaxStream", impl.SyncOut{Parts: []impl.Part{{Room: 3, Events: heardMany(116)}}}, one, impl.Seen{Room: 3, State: three.State, Events: append(heardEvents(3)[:4], heardMany(116)...), Gaps: []int64{1}})
	check("very many parts", impl.SyncOut{Parts: slices.Repeat([]impl.Part{{Room: 3, State: []impl.Entry{about}}, {Room: 1, Gap: true}}, impl.MaxList)}, one, impl.Seen{Room: 3, State: []impl.Entry{begun, about}, Events: three.Events, Gaps: []int64{1}})
}

// Nothing comes of an answer of which no right client would.
func TestNotTaken(t *testing.T) {
	late := impl.Shown{Event: event(500, 0, saysAs(1, "late"), 9)}
	fine := impl.Part{Room: 2, State: someState(), Events: []impl.Shown{late}}
	checkTake(t, "a right one", someClient(), impl.SyncOut{Parts: []impl.Part{fine}, Left: []int64{1}, Next: 8})
	wrong := map[string]impl.SyncOut{}
	for _, next := range []int64{-1, 121, 122, 1000, -120, math.MinInt64, math.MaxInt64} {
		wrong[fmt.Sprint("next ", next)] = impl.SyncOut{Next: next}
	}
	for _, code := range []int64{impl.ErrForm, impl.ErrSize, impl.ErrDenied, 12, -1, math.MinInt64, math.MaxInt64} {
		wrong[fmt.Sprint("code ", code)] = impl.SyncOut{Code: code}
	}
	for _, room := range noRooms() {
		wrong[fmt.Sprint("room ", room)] = impl.SyncOut{Parts: []impl.Part{{Room: room}}}
		wrong[fmt.Sprint("room and left ", room)] = impl.SyncOut{Parts: []impl.Part{{Room: room}}, Left: []int64{room}}
	}
	for i, s := range append(wrongStates(), make([]impl.Entry, impl.MaxList+1), slices.Repeat(someState(), 99)) {
		// What is taken out may have the Id 0.
		if modelStateApply(nil, s).Code != impl.OK {
			wrong[fmt.Sprint("state ", i)] = impl.SyncOut{Parts: []impl.Part{{Room: 1, State: s}}}
			wrong[fmt.Sprint("state mended later ", i)] = impl.SyncOut{Parts: []impl.Part{{Room: 2, State: s}, {Room: 2, State: someState()}}}
		}
	}
	for name, change := range wrongEvents() {
		e := event(500, 0, saysAs(1, "late"), 9)
		change(&e)
		wrong["event "+name] = impl.SyncOut{Parts: []impl.Part{{Room: 3, Events: []impl.Shown{late, {Event: e}}}}}
	}
	for _, many := range []int{117, 118, 121, 5000} {
		wrong[fmt.Sprint("too many ", many)] = impl.SyncOut{Parts: []impl.Part{{Room: 3, Events: heardMany(many)}}}
	}
	wrong["too many in two parts"] = impl.SyncOut{Parts: []impl.Part{{Room: 3, Events: heardMany(116)}, fine, {Room: 3, Events: []impl.Shown{late}}}}
	wrong["too many of a new room"] = impl.SyncOut{Parts: []impl.Part{{Room: 2, Events: heardMany(121)}}}
	wrong["there already"] = impl.SyncOut{Parts: []impl.Part{{Room: 3, Events: heardEvents(3)[2:3]}}}
	wrong["its Id is there already"] = impl.SyncOut{Parts: []impl.Part{{Room: 3, Events: []impl.Shown{late, {Event: event(4, 0, saysAs(1, "so"), 9)}}}}}
	wrong["twice in one part"] = impl.SyncOut{Parts: []impl.Part{{Room: 3, Events: []impl.Shown{late, late}}}}
	wrong["twice in two parts"] = impl.SyncOut{Parts: []impl.Part{{Room: 2, Events: []impl.Shown{late}}, {Room: 2, Events: []impl.Shown{late}}}}
	for name, s := range wrong {
		checkNotTaken(t, name, someClient(), s)
		// What else is told does not mend it, nor a second fault.
		parts := slices.Concat([]impl.Part{fine}, s.Parts, []impl.Part{{Room: 1, Gap: true}})
		for _, other := range []impl.SyncOut{{Parts: parts, Left: []int64{2}, Next: s.Next, Code: s.Code}, {Parts: slices.Repeat(s.Parts, 3), Left: []int64{2}, Next: -1, Code: s.Code}, {Parts: s.Parts, Next: s.Next, Code: impl.ErrNone}, {Parts: append(slices.Clone(s.Parts), impl.Part{Room: 4}), Next: s.Next, Code: s.Code}} {
			checkNotTaken(t, name+", and more", someClient(), other)
		}
	}
}

// drawnHeard are some Events, now and then one that is wrong or there already.
func drawnHeard(d *dice, many int, odd int) []impl.Shown {
	var l []impl.Shown
	for range many {
		e := event(int64(10+d.below(3000)), int64(d.below(9)), saysAs(int64(1+d.below(6)), []string{"so", ""}[d.below(2)]), 9)
		if d.below(odd) == 0 {
			e.Id = int64(d.below(40))
		}
		if d.below(odd) == 0 {
			e.Room = int64(d.below(6))
		}
		l = append(l, impl.Shown{Event: e, Hidden: d.below(2) == 0})
	}
	return l
}

// drawnPart is right most of the time.
func drawnPart(d *dice) impl.Part {
	p := impl.Part{Room: int64(1 + d.below(3)), Events: drawnHeard(d, d.below(6), 60), Gap: d.below(2) == 0, From: int64(d.below(200) - 50)}
	p.State = impl.StateDiff(drawnState(d, d.below(4)), drawnState(d, d.below(4)))
	switch d.below(40) {
	case 0:
		p.Room = int64(d.below(7) - 2)
	case 1:
		slices.Reverse(p.State)
	case 2:
		p.State = withEntry(p.State, wrongEntries()[d.below(len(wrongEntries()))])
	case 3:
		p.Events = drawnHeard(d, 20+d.below(50), 900)
	}
	return p
}

// Whatever is told, one after the other, comes to what the model comes to; what can not be taken changes nothing.
func TestDrawnAnswers(t *testing.T) {
	d := dice(101)
	taken, refused, full := 0, 0, 0
	for range 60 {
		c := impl.ClientNew(int64(1 + d.below(6))).Client
		for range 40 {
			s := impl.SyncOut{Next: int64(d.below(125) - 1)}
			for range d.below(4) {
				s.Parts = append(s.Parts, drawnPart(&d))
			}
			for range d.below(3) * d.below(2) * d.below(2) {
				s.Left = append(s.Left, int64(d.below(5)))
			}
			out := checkTake(t, "drawn", c, s)
			if out.Code != impl.OK {
				refused++
				continue
			}
			taken++
			c = out.Client
			for _, x := range c.Rooms {
				full = max(full, len(x.Events))
			}
		}
		checkClient(t, "drawn", c)
	}
	if taken < 500 || refused < 200 || full < 90 {
		t.Errorf("too few of one kind: %d, %d, %d", taken, refused, full)
	}
}

// Each call ends, however much is handed in.
func TestVeryMuchIsTold(t *testing.T) {
	c := someClient()
	many := heardMany(200000)
	checkNone := func(what string, s impl.SyncOut) {
		t.Helper()
		out := impl.ClientTake(c, s)
		same(t, what, []any{out.Code, len(out.Client.Rooms)}, []any{int64(impl.ErrForm), 0})
	}
	checkNone("very many Events", impl.SyncOut{Parts: []impl.Part{{Room: 2, Events: many}}})
	checkNone("very many rooms", impl.SyncOut{Parts: make([]impl.Part, 200000)})
	checkNone("very many Events, again and again", impl.SyncOut{Parts: slices.Repeat([]impl.Part{{Room: 2, Events: many}}, 50)})
	checkNone("a very long state", impl.SyncOut{Parts: []impl.Part{{Room: 2, State: make([]impl.Entry, 200000)}}})
	same(t, "very many rooms left", impl.ClientTake(c, impl.SyncOut{Left: make([]int64, 200000), Next: 7}).Client, c)
	same(t, "very many parts", impl.ClientTake(c, impl.SyncOut{Parts: slices.Repeat([]impl.Part{{Room: 1}}, 20000), Next: 7}).Client, c)
	for _, wrong := range []impl.Client{{User: 2, Rooms: []impl.Seen{{Room: 1, Events: many}}}, {User: 2, Rooms: make([]impl.Seen, 200000)}, {User: 2, Rooms: []impl.Seen{{Room: 1, Gaps: make([]int64, 200000)}}}, {User: 2, Since: letters(200000)}} {
		same(t, "no client", []any{impl.ClientRight(wrong), impl.SeenOf(wrong, 1), impl.ClientTake(wrong, impl.SyncOut{}).Code}, []any{false, impl.Seen{}, int64(impl.ErrForm)})
	}
}

// However its goroutines run, and however many take at once, the answer is the same, and none of them goes on behind it.
func TestTakenTheSameByAll(t *testing.T) {
	before := runtime.NumGoroutine()
	d := dice(102)
	var answers []impl.SyncOut
	for range 12 {
		s := impl.SyncOut{Next: int64(d.below(121)), Left: []int64{int64(d.below(5)), 2}[:d.below(3)]}
		for range 1 + d.below(9) {
			s.Parts = append(s.Parts, drawnPart(&d))
		}
		answers = append(answers, s)
	}
	for _, h := range append(fullHouses(), course(t, 2)) {
		answers = append(answers, impl.Sync(h, 2, "", 20))
	}
	taken := 0
	for _, s := range answers {
		if checkTakenByAll(t, someClient(), s).Code == impl.OK {
			taken++
		}
	}
	if taken < 5 || taken == len(answers) {
		t.Errorf("too few were taken, or not: %d", taken)
	}
	for range 1000 {
		if runtime.NumGoroutine() <= before {
			return
		}
		time.Sleep(time.Millisecond)
	}
	t.Errorf("goroutines go on: %d, and %d ahead of that", runtime.NumGoroutine(), before)
}

// checkTakenByAll takes one after the other, by few and by many threads, and then many at once of what all of them share.
func checkTakenByAll(t *testing.T, c impl.Client, s impl.SyncOut) impl.ClientOut {
	t.Helper()
	want := modelTake(c, s)
	handedC, unchangedC := handedClient(c)
	handedS, unchangedS := handedAnswer(s)
	defer runtime.GOMAXPROCS(runtime.GOMAXPROCS(1))
	for _, threads := range []int{1, 2, 8} {
		runtime.GOMAXPROCS(threads)
		for range 30 {
			same(t, fmt.Sprint("by ", threads), impl.ClientTake(handedC, handedS), want)
		}
	}
	var taking sync.WaitGroup
	for range 32 {
		taking.Go(func() {
			same(t, "at once", impl.ClientTake(handedC, handedS), want)
			same(t, "asked at once", []any{impl.ClientRight(handedC), impl.SeenOf(handedC, 1)}, []any{true, modelSeenOf(c, 1)})
		})
	}
	taking.Wait()
	unchangedC(t, "by all")
	unchangedS(t, "by all")
	return want
}

// What is handed back is new, and each call reads anew what is handed in.
func TestClientsKeepNothing(t *testing.T) {
	c := someClient()
	// That lists of what is handed in lie in the same memory does not show in what comes of it.
	state, prev := []impl.Entry{entry(impl.EvTopic, 0, 8)}, []int64{9}
	heard := []impl.Shown{{Event: event(500, 0, saysAs(1, "late"), 9)}, {Event: event(501, 0, saysAs(1, "later"), 9)}}
	heard[0].Event.Prev, heard[1].Event.Prev = prev, prev
	c.Rooms[1].Events, c.Rooms[1].Gaps = c.Rooms[0].Events, c.Rooms[0].Gaps
	s := impl.SyncOut{Parts: []impl.Part{{Room: 2, State: state, Events: heard, Gap: true}, {Room: 1, State: state, Events: heard, Gap: true}}, Next: 8}
	out := impl.ClientTake(c, s)
	isNewMemory(t, "all of it", out, c, s)
	kept := twinClient(out.Client)
	same(t, "as the model says", out, modelTake(c, s))
	again, seen := impl.ClientTake(c, s), impl.SeenOf(out.Client, 1)
	isNewMemory(t, "again", again, c, s, out, seen)
	c.Since, c.Rooms[0].State[0].Id, c.Rooms[0].Gaps[0], c.Rooms[0].Events[0].Event.Author, c.Rooms[0].Events[1].Event.Prev[0] = "", 77, 1, 6, 1
	state[0].Id, prev[0], heard[0].Event.Text = 77, 8, "else"
	same(t, "what came of it stays", []any{out.Client, again.Client, seen}, []any{kept, kept, kept.Rooms[0]})
	same(t, "read anew", checkTake(t, "anew", c, s).Client.Rooms[1].Events[0].Event.Text, "else")
	spoil(&again.Client)
	same(t, "what came first stays", []any{out.Client, seen}, []any{kept, kept.Rooms[0]})
	same(t, "no client any more", []any{impl.ClientRight(again.Client), impl.ClientRight(out.Client)}, []any{false, true})
	c.Rooms[0].Room = 4
	same(t, "no client any more", []any{impl.ClientRight(c), impl.ClientTake(c, s), impl.SeenOf(c, 3)}, []any{false, impl.ClientOut{Code: impl.ErrForm}, impl.Seen{}})
}

// spoil changes all that a client holds.
func spoil(c *impl.Client) {
	for i := range c.Rooms {
		x := &c.Rooms[i]
		for j := range x.State {
			x.State[j] = impl.Entry{}
		}
		for j := range x.Events {
			for k := range x.Events[j].Event.Prev {
				x.Events[j].Event.Prev[k] = -7
			}
			x.Events[j] = impl.Shown{}
		}
		for j := range x.Gaps {
			x.Gaps[j] = -7
		}
		*x = impl.Seen{}
	}
}
