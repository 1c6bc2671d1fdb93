package tests

import (
	"fmt"
	"math"
	"slices"
	"testing"

	"loop.example/g00683/impl"
)

// A model of the chapter, word by word, on the models of the earlier chapters.

// looks is a right house, and what is told of each of its rooms.
type looks struct {
	house impl.Hub
	rooms []told
}

func looksOf(h impl.Hub) looks {
	out := looks{house: h}
	for _, g := range h.Rooms {
		out.rooms = append(out.rooms, modelTold(g))
	}
	return out
}

// arrived are the Events of a room that have a place, by these.
func (l looks) arrived(room int64) []impl.Event {
	var out []impl.Event
	for _, at := range l.house.Stream {
		if at.Room == room {
			out = append(out, impl.EventAt(l.house.Rooms[room-1], at.Id))
		}
	}
	return out
}

// Why one sees an Event; own is told only where nothing else holds.
const (
	unseen = iota
	wasIn
	seenByAll
	isInNow
	ownOnly
	manyWhys
)

func (l looks) why(user int64, room int64, id int64) int {
	i := slices.Index(l.house.Stream, impl.Spot{Room: room, Id: id})
	if i < 0 || user < 1 || user > 6 {
		return unseen
	}
	g, tells := l.house.Rooms[room-1], l.rooms[room-1]
	e, then := impl.EventAt(g, id), tells.behind[id]
	sight := modelSight(g, then)
	switch {
	case modelMember(g, then, user) == impl.MbJoin:
		return wasIn
	case sight == 1:
		return seenByAll
	case sight == 2 && modelMember(g, tells.current, user) == impl.MbJoin:
		return isInNow
	case e.Kind == impl.EvMember && e.Key == user:
		return ownOnly
	}
	return unseen
}

func (l looks) visible(user int64, room int64) []int64 {
	var out []int64
	for _, e := range l.arrived(room) {
		if l.why(user, room, e.Id) != unseen {
			out = append(out, e.Id)
		}
	}
	return out
}

func (l looks) hiddenBy(room int64, id int64) int64 {
	for _, e := range l.arrived(room) {
		if e.Kind == impl.EvHide && e.Key == id {
			return e.Id
		}
	}
	return 0
}

func (l looks) shown(room int64, id int64) impl.Shown {
	i := slices.Index(l.house.Stream, impl.Spot{Room: room, Id: id})
	if i < 0 {
		return impl.Shown{}
	}
	e := impl.EventAt(l.house.Rooms[room-1], id)
	if l.hiddenBy(room, id) == 0 || e.Kind != impl.EvSay && e.Kind != impl.EvTopic {
		return impl.Shown{Event: e}
	}
	e.Text = ""
	return impl.Shown{Event: e, Hidden: true}
}

func (l looks) roomsOf(user int64) []int64 {
	var out []int64
	for i, g := range l.house.Rooms {
		if modelMember(g, l.rooms[i].current, user) == impl.MbJoin {
			out = append(out, g.Room)
		}
	}
	return out
}

// tally counts why Events were seen, and of which Kinds those are that an EvHide names (0 of what has no place).
type tally struct {
	whys  [manyWhys]int
	hides [impl.EvHide + 1]int
}

// checkTally checks that there was enough of all that matters.
func checkTally(t *testing.T, count tally) {
	t.Helper()
	for why, many := range count.whys {
		if many < 10 {
			t.Errorf("too few for %d: %v", why, count.whys)
		}
	}
	for _, kind := range []int{impl.EvMember, impl.EvTopic, impl.EvSay, impl.EvHide} {
		if count.hides[kind] < 2 {
			t.Errorf("too few of kind %d were hidden: %v", kind, count.hides)
		}
	}
}

func everyUser() []int64 {
	return []int64{1, 2, 3, 4, 5, 6, 0, 7, -1, math.MinInt64, math.MaxInt64}
}

func noRooms() []int64 {
	return []int64{0, 4, -1, math.MinInt64, math.MaxInt64}
}

// idsToAsk are all Ids of the house, of whatever room, and some that there are not.
func idsToAsk(h impl.Hub) []int64 {
	out := []int64{0, -1, 999998, math.MinInt64, math.MaxInt64}
	for _, g := range h.Rooms {
		out = slices.Concat(out, idsOf(g.Events), idsOf(g.Parked))
	}
	slices.Sort(out)
	return slices.Compact(out)
}

// checkViews asks a right house all that the chapter tells of it: each user, at each Id of each room, and beside these.
func checkViews(t *testing.T, what string, h impl.Hub, count *tally) {
	t.Helper()
	handed, unchanged := handedHub(h)
	l := looksOf(h)
	ids := idsToAsk(h)
	same(t, what+": right", []bool{impl.HubRight(handed), modelHouseRight(h)}, []bool{true, true})
	for _, user := range everyUser() {
		for room := range int64(impl.MaxRooms) {
			checkSeen(t, what, l, handed, user, room+1, ids, count)
		}
		in := impl.RoomsOf(handed, user)
		same(t, fmt.Sprint(what, ": rooms of ", user), in, l.roomsOf(user))
		isNewMemory(t, what, in, handed)
	}
	for room := range int64(impl.MaxRooms) {
		checkHidden(t, what, l, handed, room+1, ids, count)
	}
	for _, room := range noRooms() {
		for _, user := range everyUser() {
			same(t, what+": seen in no room", len(impl.VisibleOf(handed, user, room)), 0)
		}
		for _, id := range []int64{0, 1, 100, 106, ids[len(ids)/2]} {
			same(t, what+": in no room", []any{impl.Sees(handed, 1, room, id), impl.HiddenBy(handed, room, id), impl.ShownOf(handed, room, id)}, []any{false, int64(0), impl.Shown{}})
		}
	}
	unchanged(t, what)
}

// checkSeen holds what is visible to one against the model, and against what one sees.
func checkSeen(t *testing.T, what string, l looks, handed impl.Hub, user int64, room int64, ids []int64, count *tally) {
	t.Helper()
	sees := map[int64]bool{}
	for _, id := range ids {
		why := l.why(user, room, id)
		count.whys[why]++
		sees[id] = impl.Sees(handed, user, room, id)
		if sees[id] != (why != unseen) {
			t.Errorf("%s: does %d see %d in room %d of %+v: got %v, want %v", what, user, id, room, l.house, sees[id], why != unseen)
		}
	}
	var just []int64
	for _, at := range l.house.Stream {
		if at.Room == room && sees[at.Id] {
			just = append(just, at.Id)
		}
	}
	visible := impl.VisibleOf(handed, user, room)
	same(t, fmt.Sprint(what, ": just what ", user, " sees in room ", room), visible, just)
	same(t, fmt.Sprint(what, ": visible to ", user, " in room ", room), visible, l.visible(user, room))
	isNewMemory(t, what, visible, handed)
}

// checkHidden holds what is hidden in a room against the model, and what is shown of it against what it is.
func checkHidden(t *testing.T, what string, l looks, handed impl.Hub, room int64, ids []int64, count *tally) {
	t.Helper()
	for _, id := range ids {
		by, shown := impl.HiddenBy(handed, room, id), impl.ShownOf(handed, room, id)
		same(t, fmt.Sprint(what, ": ", id, " hidden by"), by, l.hiddenBy(room, id))
		same(t, fmt.Sprint(what, ": ", id, " is shown"), shown, l.shown(room, id))
		isNewMemory(t, what, shown, handed)
		if shown.Hidden && (shown.Event.Text != "" || by == 0) {
			t.Errorf("%s: %d in room %d of %+v is hidden by %d, but shown as %+v", what, id, room, l.house, by, shown)
		}
		if by != 0 {
			count.hides[shown.Event.Kind]++
		}
	}
}

// checkNoView checks that each call refuses a house, whatever is asked of it.
func checkNoView(t *testing.T, what string, h impl.Hub) {
	t.Helper()
	handed, unchanged := handedHub(h)
	for _, user := range []int64{1, 2, 6, 0, 7} {
		same(t, what+": in no room", len(impl.RoomsOf(handed, user)), 0)
		for _, room := range []int64{1, 2, 3, 0, 4} {
			same(t, what+": nothing is visible", len(impl.VisibleOf(handed, user, room)), 0)
			for _, id := range []int64{0, 1, 100, 101, 103, 106} {
				same(t, what+": not seen", impl.Sees(handed, user, room, id), false)
			}
		}
	}
	for _, room := range []int64{1, 2, 3, 0, 4} {
		for _, id := range []int64{0, 1, 100, 101, 103, 106} {
			same(t, what+": not hidden, nor shown", []any{impl.HiddenBy(handed, room, id), impl.ShownOf(handed, room, id)}, []any{int64(0), impl.Shown{}})
		}
	}
	unchanged(t, what)
}

func sight(author int64, n int64) impl.Event {
	return does(author, impl.EvSight, 0, n)
}

func leaves(user int64) impl.Event {
	return does(user, impl.EvMember, user, impl.MbLeave)
}

func asks(author int64, user int64) impl.Event {
	return does(author, impl.EvMember, user, impl.MbAsked)
}

func bars(author int64, user int64) impl.Event {
	return does(author, impl.EvMember, user, impl.MbBan)
}

func saysAs(author int64, text string) impl.Event {
	e := does(author, impl.EvSay, 0, 0)
	e.Text = text
	return e
}

func topicOf(author int64, text string) impl.Event {
	e := topic(author)
	e.Text = text
	return e
}

// makeAll lets all of these happen in a house, none of which is refused.
func makeAll(t *testing.T, h impl.Hub, l ...impl.Event) impl.Hub {
	t.Helper()
	for _, e := range l {
		out := impl.HubMake(h, e)
		if out.Code != impl.OK {
			t.Fatalf("%+v does not happen: %d", e, out.Code)
		}
		h = out.Hub
	}
	return h
}

// upTo are the numbers from one up to another one.
func upTo(from int64, to int64) []int64 {
	var out []int64
	for n := from; n <= to; n++ {
		out = append(out, n)
	}
	return out
}

// checkVisible holds what is visible to the users from 1 on in room 1 against what is written out, and asks all else.
func checkVisible(t *testing.T, what string, h impl.Hub, want ...[]int64) {
	t.Helper()
	for i, ids := range want {
		same(t, fmt.Sprint(what, ": visible to ", i+1), impl.VisibleOf(h, int64(i+1), 1), ids)
	}
	checkViews(t, what, h, &tally{})
}

// drawnLook is what is likely to change what is seen, or hides something; it may be refused.
func drawnLook(d *dice, h impl.Hub) impl.Event {
	room := int64(1 + d.below(impl.MaxRooms))
	user := int64(1 + d.below(4))
	e := saysAs(user, fmt.Sprint("said ahead of ", impl.NextId(h)))
	switch d.below(16) {
	case 0, 1:
		e = sight(1, int64(1+d.below(3)))
	case 2, 3, 4:
		// Now and then it is one of another room.
		from := h.Rooms[room-1].Events
		if d.below(6) == 0 {
			from = h.Rooms[room%impl.MaxRooms].Events
		}
		if len(from) > 0 {
			what := from[d.below(len(from))]
			e = hides([]int64{1, 2, what.Author, what.Author}[d.below(4)], what.Id)
		}
	case 5, 11:
		e = topicOf(1, "about")
	case 6:
		e = joins(user)
	case 7:
		e = leaves(user)
	case 8:
		e = does(1, impl.EvMember, int64(2+d.below(4)), int64(2+d.below(3)))
	case 9:
		e = gives(1, int64(2+d.below(3)), 50)
	case 10:
		e = door(1, int64(1+d.below(2)))
	}
	return inRoom(room, e)
}

// drawnHouse is a house to which some came, in no order, and in which some happened; what comes last is left out, so that some wait.
func drawnHouse(d *dice, least int, more int) impl.Hub {
	h := impl.HubNew()
	l := drawnEvents(d, least, more)
	for i, e := range l[:len(l)-3] {
		if out := impl.HubPut(h, e); out.Code == impl.OK {
			h = out.Hub
		}
		// What happens takes Ids of what is still to come.
		for range d.below(1 + 6*i/len(l)) {
			h = look(h, d)
		}
	}
	for range 20 {
		h = look(h, d)
	}
	return h
}

// look lets one more happen, if it is not refused.
func look(h impl.Hub, d *dice) impl.Hub {
	if out := impl.HubMake(h, drawnLook(d, h)); out.Code == impl.OK {
		return out.Hub
	}
	return h
}

// Promise 9, in houses that are drawn.
func TestVisibleIsWhatOneSees(t *testing.T) {
	d := dice(9)
	count, waiting, refused := tally{}, 0, 0
	for range 12 {
		h := drawnHouse(&d, 9, 12)
		checkViews(t, "drawn", h, &count)
		for _, g := range h.Rooms {
			waiting += len(g.Parked)
			refused += len(g.Events)
		}
		refused -= len(h.Stream)
	}
	checkTally(t, count)
	if waiting < 10 || refused < 10 {
		t.Errorf("too few waited, or were refused: %d, %d", waiting, refused)
	}
}

// Promise 9, where all came in the order in which it happened.
func TestVisibleInOrder(t *testing.T) {
	d := dice(99)
	count := tally{}
	for range 6 {
		h := impl.HubNew()
		for room := range int64(impl.MaxRooms) {
			h = makeAll(t, h, inRoom(room+1, begins(0)), inRoom(room+1, joins(1)), inRoom(room+1, door(1, 1)))
		}
		for range 110 {
			h = look(h, &d)
		}
		checkViews(t, "in order", h, &count)
	}
	checkTally(t, count)
}

func TestNothingToSee(t *testing.T) {
	h := impl.HubNew()
	checkVisible(t, "a new house", h, nil, nil, nil, nil, nil, nil)
	for user := range int64(impl.MaxUsers) {
		same(t, "in no room", impl.RoomsOf(h, user+1), []int64(nil))
	}
	// Who began a room is not in it.
	h = makeAll(t, h, begins(0))
	checkVisible(t, "begun", h, nil, nil)
	h = makeAll(t, h, joins(1))
	checkVisible(t, "and come in", h, []int64{1, 2}, nil)
	same(t, "rooms", impl.RoomsOf(h, 1), []int64{1})
	h = makeAll(t, h, leaves(1))
	checkVisible(t, "and gone", h, []int64{2, 3}, nil)
	same(t, "rooms", impl.RoomsOf(h, 1), []int64(nil))
}

// course is a room in which, from 3 on, a sight holds: 2 is in from 6 on, and leaves (9); 3 is asked in (8); 4 is in from 12 on, and barred (13); 5 is in from 15 on.
func course(t *testing.T, n int64) impl.Hub {
	t.Helper()
	return makeAll(t, impl.HubNew(), begins(0), joins(1), sight(1, n), says(0), asks(1, 2), joins(2), says(0), asks(1, 3),
		leaves(2), says(0), door(1, 1), joins(4), bars(1, 4), says(0), joins(5), saysAs(5, "all right"))
}

func TestWhoSeesWhat(t *testing.T) {
	all, late := upTo(1, 16), upTo(3, 16)
	checkVisible(t, "all see it", course(t, 1), all, late, late, late, all, late)
	checkVisible(t, "who is in now", course(t, 2), all, upTo(5, 9), []int64{8}, []int64{12, 13}, all, nil)
	checkVisible(t, "who was in then", course(t, 3), all, upTo(5, 9), []int64{8}, []int64{12, 13}, []int64{1, 2, 15, 16}, nil)
	for n := range int64(3) {
		h := course(t, n+1)
		for user, in := range []bool{true, false, false, false, true, false} {
			same(t, fmt.Sprint("rooms of ", user+1), len(impl.RoomsOf(h, int64(user+1))) == 1, in)
		}
	}
	same(t, "one at a time", []bool{impl.Sees(course(t, 2), 5, 1, 10), impl.Sees(course(t, 3), 5, 1, 10), impl.Sees(course(t, 3), 5, 1, 15), impl.Sees(course(t, 1), 6, 1, 2)}, []bool{true, false, true, false})
}

// With no EvSight at all it is as with one of 2.
func TestWhoSeesWithoutSight(t *testing.T) {
	h := makeAll(t, impl.HubNew(), begins(0), joins(1), says(0), door(1, 1), joins(2), says(0), leaves(2), joins(3))
	checkVisible(t, "no sight", h, upTo(1, 8), []int64{5, 6, 7}, upTo(1, 8), nil)
}

// Who goes now sees no more of what was for who is in now, and who comes back sees it again.
func TestWhoGoesSeesLess(t *testing.T) {
	for n, want := range map[int64][]int64{1: upTo(3, 17), 2: upTo(15, 17), 3: upTo(15, 17)} {
		h := makeAll(t, course(t, n), leaves(5))
		same(t, "5 has left", [][]int64{impl.VisibleOf(h, 5, 1), impl.VisibleOf(h, 1, 1)}, [][]int64{want, upTo(1, 17)})
		h = makeAll(t, h, leaves(1))
		same(t, "1 has left", impl.VisibleOf(h, 1, 1), upTo(2, 18))
		checkViews(t, "all have left", h, &tally{})
		h = makeAll(t, h, joins(1))
		same(t, "1 is back", impl.VisibleOf(h, 1, 1), upTo(1, 19))
	}
}

// Who may see an Event hangs on what held when it happened, not on what holds now.
func TestSightThatHasChanged(t *testing.T) {
	h := makeAll(t, impl.HubNew(), begins(0), joins(1), door(1, 1), says(0), sight(1, 1), says(0), sight(1, 3), says(0), sight(1, 2), says(0), joins(2))
	checkVisible(t, "2 is in", h, upTo(1, 11), []int64{1, 2, 3, 4, 5, 6, 9, 10, 11}, []int64{5, 6})
	h = makeAll(t, h, leaves(2))
	checkVisible(t, "2 has left", h, upTo(1, 12), []int64{5, 6, 11, 12}, []int64{5, 6})
	h = makeAll(t, h, sight(1, 1), leaves(1))
	checkVisible(t, "all may see it now", h, []int64{2, 3, 4, 5, 6, 7, 8, 9, 10, 11, 12, 13, 14}, []int64{5, 6, 11, 12, 13, 14}, []int64{5, 6, 13, 14})
}

// What one came by, was asked or thrown out by, one sees, also where one sees nothing else.
func TestOwnMembers(t *testing.T) {
	h := makeAll(t, impl.HubNew(), begins(0), joins(1), sight(1, 3), says(0), asks(1, 2), bars(1, 3), bars(1, 2), says(0), asks(1, 4), does(1, impl.EvMember, 4, impl.MbLeave), gives(1, 5, 7), leaves(1))
	checkVisible(t, "own", h, upTo(2, 12), []int64{5, 7}, []int64{6}, []int64{9, 10}, nil, nil)
	h = makeAll(t, impl.HubNew(), inRoom(2, begins(0)), inRoom(2, joins(1)), inRoom(2, asks(1, 2)), begins(0), joins(1))
	same(t, "in the other room", [][]int64{impl.VisibleOf(h, 2, 1), impl.VisibleOf(h, 2, 2), impl.VisibleOf(h, 1, 1), impl.VisibleOf(h, 1, 2)}, [][]int64{nil, {3}, {4, 5}, {1, 2, 3}})
	checkViews(t, "two rooms", h, &tally{})
}

func TestRoomsOfEach(t *testing.T) {
	h := impl.HubNew()
	for room := int64(impl.MaxRooms); room > 0; room-- {
		h = makeAll(t, h, inRoom(room, begins(0)), inRoom(room, joins(1)), inRoom(room, door(1, 1)), inRoom(room, joins(1+room)))
	}
	h = makeAll(t, h, inRoom(3, joins(2)), inRoom(1, asks(1, 5)), inRoom(2, joins(6)), inRoom(1, joins(6)), inRoom(2, leaves(6)), inRoom(3, joins(6)))
	for user, want := range [][]int64{nil, {1, 2, 3}, {1, 3}, {2}, {3}, nil, {1, 3}, nil} {
		same(t, fmt.Sprint("rooms of ", user), impl.RoomsOf(h, int64(user)), want)
	}
	checkViews(t, "three rooms", h, &tally{})
	h = makeAll(t, h, inRoom(1, bars(1, 6)), inRoom(3, leaves(1)))
	same(t, "thrown out, and gone", [][]int64{impl.RoomsOf(h, 6), impl.RoomsOf(h, 1)}, [][]int64{{3}, {1, 2}})
}

// lateRoom has a sight of 3 behind the first ones; 2 comes behind that, and says 105.
func lateRoom(t *testing.T, more ...impl.Event) impl.Hub {
	t.Helper()
	return putAll(t, impl.HubNew(), append(lateEvents(), more...)...)
}

func lateEvents() []impl.Event {
	return []impl.Event{event(100, 0, begins(0)), event(101, 0, joins(1), 100), event(102, 0, door(1, 1), 101), event(103, 0, sight(1, 3), 102), event(104, 0, joins(2), 103), event(105, 0, saysAs(2, "here"), 104)}
}

// Who was in then is told by what an Event stands behind; the order is that in which they came.
func TestSeenOutOfOrder(t *testing.T) {
	early := []int64{100, 101, 102}
	h := lateRoom(t, says(90, 103), says(50, 105))
	checkVisible(t, "came late", h, slices.Concat(early, []int64{103, 104, 105, 90, 50}), slices.Concat(early, []int64{104, 105, 50}), nil)
	h = lateRoom(t, says(50, 106), says(51, 105), event(106, 0, leaves(2), 105))
	checkVisible(t, "came with another", h, slices.Concat(early, []int64{103, 104, 105, 51, 106, 50}), []int64{104, 105, 51, 106}, nil)
	h = lateRoom(t, event(106, 0, leaves(2), 105), says(60, 105), says(61, 60, 106))
	checkVisible(t, "on another way", h, slices.Concat(early, []int64{103, 104, 105, 106, 60, 61}), []int64{104, 105, 106, 60}, nil)
	h = lateRoom(t, event(106, 0, sight(1, 1), 105), says(60, 105), says(61, 60, 106))
	checkVisible(t, "sight on another way", h, slices.Concat(early, []int64{103, 104, 105, 106, 60, 61}), slices.Concat(early, []int64{104, 105, 106, 60, 61}), []int64{106, 61})
	h = lateRoom(t, event(106, 0, bars(1, 2), 103), event(107, 0, sight(1, 2), 103), says(60, 105))
	checkVisible(t, "thrown out on another way", h, slices.Concat(early, []int64{103, 104, 105, 106, 107, 60}), []int64{104, 105, 106, 60}, nil)
}

// What waits, and what is refused, has no place: nobody sees it, and it is not shown.
func TestWithoutAPlace(t *testing.T) {
	h := lateRoom(t, event(106, 0, sight(1, 1), 105), says(7, 999), event(8, 0, topicOf(2, "no"), 106), event(9, 0, sight(2, 3), 106), event(10, 0, joins(3), 998),
		event(11, 0, bars(2, 3), 106), event(12, 0, saysAs(3, "not in"), 106), event(13, 0, hides(1, 8), 8), event(14, 0, hides(1, 7), 106))
	for _, id := range []int64{7, 8, 9, 10, 11, 12, 14} {
		same(t, fmt.Sprint("no place of ", id), []any{impl.PosOf(h, 1, id), impl.ShownOf(h, 1, id), impl.Sees(h, 1, 1, id), impl.Sees(h, 3, 1, id)}, []any{int64(0), impl.Shown{}, false, false})
	}
	checkVisible(t, "no place", h, []int64{100, 101, 102, 103, 104, 105, 106, 13}, []int64{100, 101, 102, 104, 105, 106, 13}, []int64{106, 13})
	// That it was refused does not keep it from having been hidden, but there is nothing to show of it.
	checkHiddenBy(t, "no place", h, map[int64]int64{8: 13, 7: 0, 9: 0})
	h = putAll(t, h, event(999, 0, saysAs(2, "it comes"), 106))
	checkVisible(t, "one has come", h, []int64{100, 101, 102, 103, 104, 105, 106, 13, 999, 7}, []int64{100, 101, 102, 104, 105, 106, 13, 999, 7}, []int64{106, 13, 999, 7})
}

// checkHiddenBy holds what hid the Events of room 1 against what is written out, and asks all else.
func checkHiddenBy(t *testing.T, what string, h impl.Hub, want map[int64]int64) {
	t.Helper()
	for id, by := range want {
		same(t, fmt.Sprint(what, ": what hid ", id), impl.HiddenBy(h, 1, id), by)
	}
	checkViews(t, what, h, &tally{})
}

// hiddenRoom has one EvHide of each kind of Event that can be hidden, and two that are refused.
func hiddenRoom() []impl.Event {
	return append(opened(),
		event(110, 1, topicOf(1, "about this"), 106), event(111, 2, saysAs(3, "three"), 110), event(112, 3, hides(2, 106), 111), event(113, 4, hides(1, 110), 112),
		event(114, 5, hides(3, 111), 113), event(115, 6, hides(1, 112), 114), event(116, 7, hides(1, 103), 115), event(117, 8, hides(1, 102), 116),
		event(118, 9, hides(3, 106), 117), event(119, 9, saysAs(1, "more"), 118), event(120, 9, hides(3, 119), 119), event(121, 9, hides(2, 100), 119),
		event(122, 9, hides(2, 104), 121), event(123, 9, sight(1, 2), 122), event(124, 9, hides(2, 123), 123), event(125, 9, topic(1), 124), event(126, 9, hides(1, 125), 125))
}

func TestWhatIsHidden(t *testing.T) {
	h := putAll(t, impl.HubNew(), hiddenRoom()...)
	checkHiddenBy(t, "hidden", h, map[int64]int64{106: 112, 110: 113, 111: 114, 112: 115, 103: 116, 102: 117, 119: 0, 118: 0, 120: 0, 100: 121, 104: 122, 123: 124, 125: 126, 126: 0, 105: 0, 115: 0, 0: 0, 999: 0})
	for _, e := range hiddenRoom() {
		shown := impl.ShownOf(h, 1, e.Id)
		switch e.Id {
		case 118, 120:
			same(t, "refused", shown, impl.Shown{})
		case 106, 110, 111, 125:
			e.Text = ""
			same(t, "without its text", shown, impl.Shown{Event: e, Hidden: true})
		default:
			same(t, "whole", shown, impl.Shown{Event: e})
		}
	}
	// What is hidden is seen as ever, and tells as ever how the room stands.
	same(t, "seen", impl.VisibleOf(h, 3, 1), slices.Concat(upTo(100, 106), upTo(110, 117), []int64{119}, upTo(121, 126)))
	same(t, "stands", impl.StateAt(impl.CurrentOf(h.Rooms[0]), impl.EvTopic, 0), int64(125))
}

// Of two that hide one Event that of the lesser place counts, whatever their Ids and Times are.
func TestHiddenTwice(t *testing.T) {
	least, greatest := event(10, 9, hides(2, 106), 106), event(900, 1, hides(1, 106), 106)
	middle := event(500, 0, hides(1, 106), 10, 900)
	for by, l := range map[int64][]impl.Event{10: {least, greatest, middle}, 900: {greatest, least, middle}} {
		h := putAll(t, impl.HubNew(), append(opened(), l...)...)
		checkHiddenBy(t, "twice", h, map[int64]int64{106: by, 10: 0, 900: 0})
	}
	h := putAll(t, impl.HubNew(), append(opened(), middle, greatest, least)...)
	checkHiddenBy(t, "the one that waited is the last one", h, map[int64]int64{106: 900})
	h = putAll(t, impl.HubNew(), append(opened(), event(10, 0, hides(3, 106), 106), greatest)...)
	checkHiddenBy(t, "the first one is refused", h, map[int64]int64{106: 900})
	h = putAll(t, impl.HubNew(), append(opened(), event(10, 0, hides(1, 105), 106), greatest, event(901, 0, hides(1, 10), 10, 900))...)
	checkHiddenBy(t, "one hides what hides", h, map[int64]int64{105: 10, 106: 900, 10: 901})
	same(t, "it stays hidden", impl.ShownOf(h, 1, 106).Hidden, true)
}

// An EvHide that waits, or does not know of what it hides, hides nothing.
func TestHidesNothing(t *testing.T) {
	h := putAll(t, impl.HubNew(), append(opened(), event(10, 0, hides(1, 106), 999), event(11, 0, hides(1, 12), 106), says(12, 106), event(13, 0, hides(1, 12), 106), event(14, 0, hides(4, 106), 106), event(15, 0, hides(1, 77), 106))...)
	checkHiddenBy(t, "nothing", h, map[int64]int64{106: 0, 12: 0, 77: 0, 999: 0, 10: 0})
	same(t, "nothing", []any{impl.ShownOf(h, 1, 12), impl.ShownOf(h, 1, 10), impl.Sees(h, 1, 1, 10), impl.Sees(h, 1, 1, 11)}, []any{impl.Shown{Event: says(12, 106)}, impl.Shown{}, false, false})
	h = putAll(t, h, says(999, 12))
	checkHiddenBy(t, "it has come", h, map[int64]int64{106: 10, 12: 0})
}

// One Id may stand in each room, and is hidden only in that of the EvHide.
func TestHiddenInOneRoom(t *testing.T) {
	h := impl.HubNew()
	for _, room := range []int64{2, 1, 3} {
		for _, e := range append(opened(), says(200+room, 106)) {
			h = putAll(t, h, inRoom(room, e))
		}
	}
	h = putAll(t, h, inRoom(2, event(10, 0, hides(1, 106), 106)), event(11, 0, hides(1, 202), 106), event(12, 0, hides(1, 201), 201), inRoom(3, event(13, 0, hides(1, 106), 106)))
	for room, want := range [][]int64{{0, 12, 0, 0}, {10, 0, 0, 0}, {13, 0, 0, 0}} {
		for i, id := range []int64{106, 201, 202, 203} {
			same(t, fmt.Sprint("room ", room+1, ": what hid ", id), impl.HiddenBy(h, int64(room+1), id), want[i])
		}
	}
	same(t, "shown", []bool{impl.ShownOf(h, 1, 106).Hidden, impl.ShownOf(h, 2, 106).Hidden, impl.ShownOf(h, 3, 106).Hidden, impl.ShownOf(h, 2, 202).Hidden, impl.ShownOf(h, 1, 201).Hidden}, []bool{false, true, true, false, true})
	same(t, "of its room", []int64{impl.ShownOf(h, 3, 106).Event.Room, impl.ShownOf(h, 1, 203).Event.Room}, []int64{3, 0})
	checkViews(t, "three rooms", h, &tally{})
}

// Who is no user sees nothing, not even where all see it.
func TestNoUserSees(t *testing.T) {
	h := makeAll(t, impl.HubNew(), begins(0), joins(1), door(1, 1), sight(1, 1), joins(6), says(0))
	checkVisible(t, "all see it", h, upTo(1, 6), upTo(4, 6), upTo(4, 6), upTo(4, 6), upTo(4, 6), upTo(1, 6), nil)
	for _, user := range []int64{0, -1, 7, math.MinInt64, math.MaxInt64} {
		same(t, fmt.Sprint("no user ", user), []any{impl.VisibleOf(h, user, 1), impl.Sees(h, user, 1, 6), impl.RoomsOf(h, user)}, []any{[]int64(nil), false, []int64(nil)})
	}
	for _, room := range append(noRooms(), 2, 3) {
		same(t, fmt.Sprint("not in room ", room), []any{impl.VisibleOf(h, 1, room), impl.Sees(h, 1, room, 6), impl.HiddenBy(h, room, 6), impl.ShownOf(h, room, 6)}, []any{[]int64(nil), false, int64(0), impl.Shown{}})
	}
	for _, id := range []int64{0, -1, 7, impl.MaxTime, impl.MaxTime + 1, math.MinInt64, math.MaxInt64} {
		same(t, fmt.Sprint("no Event ", id), []any{impl.Sees(h, 1, 1, id), impl.HiddenBy(h, 1, id), impl.ShownOf(h, 1, id)}, []any{false, int64(0), impl.Shown{}})
	}
}

// fullOfHides is a room of MaxEvents in one row, in which each other one hides the first one that is said.
func fullOfHides() impl.Graph {
	l := opened()
	for id := int64(107); len(l) < impl.MaxEvents; id++ {
		e := saysAs(1+id%3, letters(impl.MaxText))
		if id%2 == 0 {
			e = hides(1, 106)
		}
		l = append(l, event(id, 0, e, id-1))
	}
	return graphOf(l, nil)
}

func TestCrowdedViews(t *testing.T) {
	count := tally{}
	checkViews(t, "crowded", crowded(), &count)
	h := houseOf(fullOfHides(), fullOfHides())
	for i := range int64(impl.MaxParked) {
		for room := range int64(impl.MaxRooms) {
			h.Rooms[room].Parked = append(h.Rooms[room].Parked, inRoom(room+1, event(500+i, 0, hides(1, 106), 499, 600+i)))
		}
	}
	same(t, "MaxStream", []int{len(h.Stream), len(h.Rooms[0].Events), len(h.Rooms[2].Parked)}, []int{impl.MaxStream, impl.MaxEvents, impl.MaxParked})
	checkViews(t, "full of hides", h, &count)
	same(t, "the first one", []int64{impl.HiddenBy(h, 1, 106), impl.HiddenBy(h, 2, 106)}, []int64{108, 108})
	slices.Reverse(h.Rooms)
	same(t, "turned round", len(impl.VisibleOf(h, 1, 1)), 0)
	wide := houseOf(openedAnd(), openedAnd(), openedAnd())
	for i := range wide.Rooms {
		for id := range int64(31) {
			wide.Rooms[i].Events = append(wide.Rooms[i].Events, inRoom(int64(i+1), event(200+id, id%3, []impl.Event{topic(1), sight(1, 1+id%3), bars(2, 3)}[(id+int64(i))%3], 106)))
		}
	}
	wide.Stream = modelCounted(wide.Rooms)
	checkViews(t, "many ends", wide, &count)
	checkViews(t, "a beginning twice", houseOf(graphOf([]impl.Event{begins(1), begins(2), event(3, 0, joins(1), 2), says(4, 3)}, nil)), &count)
}

func TestViewsOfWrongHouses(t *testing.T) {
	h := houseOf(openedAnd(event(107, 0, sight(1, 1), 106), event(108, 0, hides(1, 106), 107)), openedAnd(), openedAnd())
	many := len(h.Stream)
	same(t, "right", []any{impl.HubRight(h), impl.Sees(h, 6, 1, 107), impl.Sees(h, 2, 3, 106), impl.HiddenBy(h, 1, 106), impl.ShownOf(h, 1, 106).Hidden, len(impl.RoomsOf(h, 3))}, []any{true, true, true, int64(108), true, 3})
	for name, change := range map[string]func(x *impl.Hub){
		"nothing":                   func(x *impl.Hub) { *x = impl.Hub{} },
		"no rooms":                  func(x *impl.Hub) { x.Rooms = nil },
		"too few rooms":             func(x *impl.Hub) { x.Rooms, x.Stream = x.Rooms[:2], x.Stream[:many-7] },
		"too many rooms":            func(x *impl.Hub) { x.Rooms = append(x.Rooms, impl.Graph{Room: 4}) },
		"rooms in another order":    func(x *impl.Hub) { x.Rooms[1], x.Rooms[2] = x.Rooms[2], x.Rooms[1] },
		"an event that is wrong":    func(x *impl.Hub) { x.Rooms[2].Events[6].Text = "" },
		"a graph that falls":        func(x *impl.Hub) { slices.Reverse(x.Rooms[2].Events) },
		"a graph with a gap":        func(x *impl.Hub) { x.Rooms[1].Events[6].Prev = []int64{99} },
		"one that waits for none":   func(x *impl.Hub) { x.Rooms[1].Parked = []impl.Event{inRoom(2, says(300, 106))} },
		"a Spot twice":              func(x *impl.Hub) { x.Stream = append(x.Stream, x.Stream[0]) },
		"one twice, one left out":   func(x *impl.Hub) { x.Stream[many-1] = x.Stream[0] },
		"the last left out":         func(x *impl.Hub) { x.Stream = x.Stream[:many-1] },
		"one in between left out":   func(x *impl.Hub) { x.Stream = slices.Delete(x.Stream, 8, 9) },
		"nothing in the stream":     func(x *impl.Hub) { x.Stream = nil },
		"one ahead of its Prev":     func(x *impl.Hub) { x.Stream[0], x.Stream[1] = x.Stream[1], x.Stream[0] },
		"one that is not there":     func(x *impl.Hub) { x.Stream[many-1].Id = 109 },
		"one of no room":            func(x *impl.Hub) { x.Stream[many-1].Room = 4 },
		"a stream that is too long": func(x *impl.Hub) { x.Stream = slices.Repeat(x.Stream, 9) },
	} {
		wrong := twinHub(h)
		change(&wrong)
		checkNoHouse(t, name, wrong)
	}
}

// What is told is new, and each call reads anew what is handed in.
func TestViewsKeepNothing(t *testing.T) {
	h := houseOf(openedAnd(event(107, 0, saysAs(2, "or not"), 105, 106)), openedAnd())
	ids, rooms, shown := impl.VisibleOf(h, 3, 1), impl.RoomsOf(h, 3), impl.ShownOf(h, 1, 107)
	isNewMemory(t, "all of it", shown, h)
	ids[0], rooms[0], shown.Event.Prev[0] = 77, 77, 77
	same(t, "told again", []any{impl.VisibleOf(h, 3, 1), impl.RoomsOf(h, 3), impl.ShownOf(h, 1, 107).Event.Prev}, []any{upTo(100, 107), []int64{1, 2}, []int64{105, 106}})
	h.Rooms[0].Events[7].Text = "another text"
	h.Rooms[1].Events[5].Author, h.Rooms[1].Events[5].Key = 4, 4
	same(t, "read anew", []any{impl.ShownOf(h, 1, 107).Event.Text, impl.RoomsOf(h, 3), impl.RoomsOf(h, 4), impl.VisibleOf(h, 3, 2)}, []any{"another text", []int64{1}, []int64{2}, []int64(nil)})
	h.Stream[0].Id = 99
	same(t, "no house any more", []any{impl.VisibleOf(h, 3, 1), impl.RoomsOf(h, 3), impl.ShownOf(h, 1, 107), impl.Sees(h, 1, 1, 107), shown.Event.Text}, []any{[]int64(nil), []int64(nil), impl.Shown{}, false, "or not"})
}
