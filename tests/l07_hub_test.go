package tests

import (
	"fmt"
	"math"
	"slices"
	"testing"

	"loop.example/g00683/impl"
)

// A model of the chapter, word by word, on the calls of the earlier chapters, that goes through lists.

// modelCounted are the Spots of all Events that are not Refused, room by room, each behind those of its Prev.
func modelCounted(rooms []impl.Graph) []impl.Spot {
	var out []impl.Spot
	for _, g := range rooms {
		for _, id := range impl.SortOf(g) {
			if impl.Refused(g, id) == impl.OK {
				out = append(out, impl.Spot{Room: g.Room, Id: id})
			}
		}
	}
	return out
}

func modelHouseRight(h impl.Hub) bool {
	if len(h.Rooms) != 3 || len(h.Stream) > 120 {
		return false
	}
	for i, g := range h.Rooms {
		if g.Room != int64(i+1) || !modelRight(g) {
			return false
		}
	}
	counted := modelCounted(h.Rooms)
	if len(counted) != len(h.Stream) {
		return false
	}
	for i, at := range h.Stream {
		if !slices.Contains(counted, at) || slices.Contains(h.Stream[:i], at) {
			return false
		}
		for _, id := range impl.EventAt(h.Rooms[at.Room-1], at.Id).Prev {
			p := impl.Spot{Room: at.Room, Id: id}
			if slices.Contains(counted, p) && !slices.Contains(h.Stream[:i], p) {
				return false
			}
		}
	}
	return true
}

// modelCome is what comes of an Event at a right house.
func modelCome(h impl.Hub, e impl.Event) impl.HubOut {
	if len(h.Stream) > 120-21 {
		return impl.HubOut{Code: impl.ErrFull}
	}
	put := modelPut(h.Rooms[e.Room-1], e)
	if put.Code != impl.OK {
		return impl.HubOut{Code: put.Code}
	}
	out := impl.HubOut{Hub: twinHub(h), Added: put.Added}
	out.Hub.Rooms[e.Room-1] = put.Graph
	for _, id := range put.Added {
		if impl.Refused(put.Graph, id) == impl.OK {
			out.Hub.Stream = append(out.Hub.Stream, impl.Spot{Room: e.Room, Id: id})
		}
	}
	return out
}

func modelHubPut(h impl.Hub, e impl.Event) impl.HubOut {
	if !modelHouseRight(h) || !impl.EventRight(e) {
		return impl.HubOut{Code: impl.ErrForm}
	}
	return modelCome(h, e)
}

func modelNextId(h impl.Hub) int64 {
	next := int64(1)
	for _, g := range h.Rooms {
		for _, e := range slices.Concat(g.Events, g.Parked) {
			next = max(next, e.Id+1)
		}
	}
	return next
}

// modelWouldRefuse asks it where it is put, or, where there is no room for it, what it would find there.
func modelWouldRefuse(g impl.Graph, e impl.Event) int64 {
	if put := modelPut(g, e); put.Code == impl.OK {
		return impl.Refused(put.Graph, e.Id)
	}
	var states [][]impl.Entry
	known := false
	for _, id := range e.Prev {
		states = append(states, impl.StateBehind(g, id))
		known = known || id == e.Key || impl.AheadOf(g, e.Key, id)
	}
	code := impl.Allowed(g, impl.Resolve(g, states), e)
	if code == impl.OK && e.Kind == impl.EvHide && !known {
		return impl.ErrNone
	}
	return code
}

func modelHubMake(h impl.Hub, e impl.Event) impl.HubOut {
	if !modelHouseRight(h) || e.Room < 1 || e.Room > 3 {
		return impl.HubOut{Code: impl.ErrForm}
	}
	g := h.Rooms[e.Room-1]
	ends := impl.EndsOf(g)
	e.Id, e.Prev = modelNextId(h), nil
	if e.Kind != impl.EvCreate {
		e.Prev = ends[:min(4, len(ends))]
	}
	full := e
	if e.Kind != impl.EvCreate && len(ends) == 0 {
		full.Prev = []int64{1 + e.Id%impl.MaxTime}
	}
	code := int64(impl.OK)
	switch {
	case !impl.EventRight(full):
		code = impl.ErrForm
	case e.Kind == impl.EvCreate && len(g.Events) > 0:
		code = impl.ErrThere
	case e.Kind != impl.EvCreate && len(ends) == 0:
		code = impl.ErrState
	case e.Kind != impl.EvCreate:
		code = modelWouldRefuse(g, e)
	}
	if code != impl.OK {
		return impl.HubOut{Code: code}
	}
	out := modelCome(h, e)
	if out.Code == impl.OK {
		out.Id = e.Id
	}
	return out
}

func modelCurrentAt(h impl.Hub, room int64, pos int64) []impl.Entry {
	if room < 1 || room > 3 || pos < 0 {
		return nil
	}
	g := h.Rooms[room-1]
	var came []impl.Event
	for _, at := range h.Stream[:min(pos, int64(len(h.Stream)))] {
		if at.Room == room {
			came = append(came, impl.EventAt(g, at.Id))
		}
	}
	var states [][]impl.Entry
	for _, e := range came {
		if !slices.ContainsFunc(came, func(f impl.Event) bool { return slices.Contains(f.Prev, e.Id) }) {
			states = append(states, impl.StateBehind(g, e.Id))
		}
	}
	return impl.Resolve(g, states)
}

// twinHub is the same house in memory of its own.
func twinHub(h impl.Hub) impl.Hub {
	var out impl.Hub
	for _, g := range h.Rooms {
		out.Rooms = append(out.Rooms, twin(g))
	}
	out.Stream = append(out.Stream, h.Stream...)
	return out
}

// handedHub is the same house with lists that lie in longer ones, and what it must still be when a call has answered.
func handedHub(h impl.Hub) (impl.Hub, func(t *testing.T, what string)) {
	handed := twinHub(h)
	many, long := len(handed.Rooms), len(handed.Stream)
	rooms := append(handed.Rooms, impl.Graph{Room: -5})
	stream := append(handed.Stream, impl.Spot{Room: -6, Id: -7})
	handed.Rooms, handed.Stream = rooms[:many], stream[:long]
	return handed, func(t *testing.T, what string) {
		t.Helper()
		same(t, what+": the house handed in", twinHub(handed), twinHub(h))
		same(t, what+": what lies behind it", []any{rooms[many], stream[long]}, []any{impl.Graph{Room: -5}, impl.Spot{Room: -6, Id: -7}})
	}
}

// checkCame holds what came of an Event against the model, and what is handed back against what a house must be.
func checkCame(t *testing.T, what string, h impl.Hub, e impl.Event, call func(h impl.Hub, e impl.Event) impl.HubOut, want impl.HubOut) impl.HubOut {
	t.Helper()
	handed, unchanged := handedHub(h)
	kept := twinEvent(e)
	got := call(handed, e)
	if fmt.Sprintf("%#v", got) != fmt.Sprintf("%#v", want) {
		t.Errorf("%s: %+v: got %+v, want %+v", what, e, got, want)
	}
	unchanged(t, what)
	same(t, what+": the event handed in", twinEvent(e), kept)
	if got.Code == impl.OK {
		same(t, what+": stays right", []bool{impl.HubRight(got.Hub), modelHouseRight(got.Hub)}, []bool{true, true})
		isNewMemory(t, what, got, handed, e)
	}
	return got
}

func checkHubPut(t *testing.T, what string, h impl.Hub, e impl.Event) impl.HubOut {
	t.Helper()
	return checkCame(t, what+": put", h, e, impl.HubPut, modelHubPut(h, e))
}

// checkHubMake looks also whether what happened is refused, and where it stands then.
func checkHubMake(t *testing.T, what string, h impl.Hub, e impl.Event) impl.HubOut {
	t.Helper()
	out := checkCame(t, what+": make", h, e, impl.HubMake, modelHubMake(h, e))
	if out.Code != impl.OK {
		return out
	}
	g := out.Hub.Rooms[e.Room-1]
	made := impl.EventAt(g, out.Id)
	same(t, what+": it is told, and came first", []int64{out.Id, out.Added[0]}, []int64{impl.NextId(h), impl.NextId(h)})
	same(t, what+": not refused", impl.Refused(g, out.Id), int64(impl.OK))
	same(t, what+": the first new Spot", out.Hub.Stream[len(h.Stream)], impl.Spot{Room: e.Room, Id: out.Id})
	e.Id, e.Prev = made.Id, made.Prev
	same(t, what+": what happened", made, e)
	return out
}

func putAll(t *testing.T, h impl.Hub, l ...impl.Event) impl.Hub {
	t.Helper()
	for _, e := range l {
		out := impl.HubPut(h, e)
		if out.Code != impl.OK {
			t.Fatalf("%+v can not be put: %d", e, out.Code)
		}
		h = out.Hub
	}
	return h
}

// checkHouse asks a right house all that the chapter tells of it, at each place, and at some that there are not.
func checkHouse(t *testing.T, what string, h impl.Hub) {
	t.Helper()
	handed, unchanged := handedHub(h)
	same(t, what+": right", []bool{impl.HubRight(handed), modelHouseRight(h)}, []bool{true, true})
	same(t, what+": the next Id", impl.NextId(handed), modelNextId(h))
	for _, g := range h.Rooms {
		for _, id := range append(slices.Concat(idsOf(g.Events), idsOf(g.Parked)), 0, -1, 999999, math.MaxInt64, math.MinInt64) {
			for _, room := range []int64{g.Room, 1 + g.Room%3, 0, 4, -1, math.MaxInt64} {
				want := slices.Index(h.Stream, impl.Spot{Room: room, Id: id}) + 1
				same(t, what+": place", impl.PosOf(handed, room, id), int64(want))
			}
		}
		same(t, what+": at the end", impl.CurrentAt(handed, g.Room, int64(len(h.Stream))), impl.CurrentOf(g))
	}
	for pos := range len(h.Stream) + 2 {
		checkAt(t, fmt.Sprint(what, ": at ", pos), handed, int64(pos))
	}
	for _, pos := range []int64{-1, math.MinInt64, math.MaxInt64, impl.MaxStream, impl.MaxStream + 1} {
		checkAt(t, fmt.Sprint(what, ": at ", pos), handed, pos)
	}
	unchanged(t, what)
}

// checkAt asks how each room stood there, and who was in.
func checkAt(t *testing.T, what string, h impl.Hub, pos int64) {
	t.Helper()
	for _, room := range []int64{1, 2, 3, 0, 4} {
		want := modelCurrentAt(h, room, pos)
		got := impl.CurrentAt(h, room, pos)
		if !slices.Equal(got, want) {
			t.Errorf("%s: room %d of %+v: got %+v, want %+v", what, room, h, got, want)
		}
		for user := range int64(impl.MaxUsers + 2) {
			g := impl.Graph{}
			if room >= 1 && room <= 3 {
				g = h.Rooms[room-1]
			}
			in := impl.MemberOf(g, want, user) == impl.MbJoin
			if impl.JoinedAt(h, room, user, pos) != in {
				t.Errorf("%s: is %d in room %d of %+v: want %v", what, user, room, h, in)
			}
		}
	}
	for _, user := range []int64{-1, math.MinInt64, math.MaxInt64} {
		same(t, what+": no user", impl.JoinedAt(h, 1, user, pos), false)
	}
}

// checkNoHouse checks that each call refuses a house, whatever is asked of it.
func checkNoHouse(t *testing.T, what string, h impl.Hub) {
	t.Helper()
	wrong := impl.HubOut{Code: impl.ErrForm}
	handed, unchanged := handedHub(h)
	same(t, what+": right", []bool{impl.HubRight(handed), modelHouseRight(h)}, []bool{false, false})
	same(t, what+": the next Id", impl.NextId(handed), int64(0))
	for _, room := range []int64{1, 2, 3, 0, 4} {
		for _, e := range []impl.Event{begins(900), says(901, 900), says(901, 106), event(902, 0, joins(1), 100), {}} {
			e.Room = room
			same(t, what+": put", impl.HubPut(handed, e), wrong)
			same(t, what+": make", impl.HubMake(handed, e), wrong)
		}
		for pos := range int64(4) {
			same(t, what+": stood", len(impl.CurrentAt(handed, room, pos*5)), 0)
			same(t, what+": joined", impl.JoinedAt(handed, room, 1, pos*5), false)
		}
		for _, id := range []int64{0, 1, 100, 101, 106} {
			same(t, what+": place", impl.PosOf(handed, room, id), int64(0))
		}
	}
	unchanged(t, what)
	checkNoView(t, what, h)
	checkNoSync(t, what, h)
}

func inRoom(room int64, e impl.Event) impl.Event {
	e.Room = room
	return e
}

// roomAs is a Graph, but in that room.
func roomAs(room int64, g impl.Graph) impl.Graph {
	out := impl.Graph{Room: room}
	for _, e := range g.Events {
		out.Events = append(out.Events, inRoom(room, twinEvent(e)))
	}
	for _, e := range g.Parked {
		out.Parked = append(out.Parked, inRoom(room, twinEvent(e)))
	}
	return out
}

// houseOf has these as its rooms, each in the room in whose place it stands, and its Stream room by room.
func houseOf(rooms ...impl.Graph) impl.Hub {
	var h impl.Hub
	for i := range int64(impl.MaxRooms) {
		g := impl.Graph{Room: i + 1}
		if int(i) < len(rooms) {
			g = roomAs(i+1, rooms[i])
		}
		h.Rooms = append(h.Rooms, g)
	}
	h.Stream = modelCounted(h.Rooms)
	return h
}

// talk is a room in which 1 comes in, and says so much that it has many Events in one row, from 100 on.
func talk(many int) impl.Graph {
	l := []impl.Event{event(100, 0, does(1, impl.EvCreate, 0, 0)), event(101, 0, joins(1), 100)}
	for i := len(l); i < many; i++ {
		l = append(l, says(int64(100+i), int64(100+i-1)))
	}
	return graphOf(l[:min(len(l), many)], nil)
}

// drawnEvents are those of three rooms of a house, in no order.
func drawnEvents(d *dice, least int, more int) []impl.Event {
	var l []impl.Event
	for room := range int64(impl.MaxRooms) {
		l = append(l, roomAs(room+1, drawnMerge(d, least+d.below(more))).Events...)
	}
	d.mix(len(l), func(i int, j int) { l[i], l[j] = l[j], l[i] })
	return l
}

// likelyDeed is drawn, and of each kind, also the first one; it may be not right.
func likelyDeed(d *dice) impl.Event {
	e := drawnDeed(d, int64(d.below(50)-5), int64(d.below(90)))
	switch d.below(20) {
	case 0, 1:
		e = does(int64(1+d.below(4)), impl.EvCreate, 0, 0)
	case 2:
		e.Kind = int64(d.below(10))
	case 3, 4:
		e = does(1, impl.EvDoor, 0, 1)
	case 5, 6:
		e = joins(1)
	case 7:
		e = hides(1, int64(1+d.below(120)))
	}
	e.Time = int64(d.below(4))
	e.Room = int64(1 + d.below(impl.MaxRooms))
	if d.below(40) == 0 {
		e.Room = int64(d.below(6) - 1)
	}
	return e
}

// Promise 8: whatever comes, and however often, the house stays right; when all is there it has the same in any order.
func TestHousesStayRight(t *testing.T) {
	d := dice(8)
	waited, refused := 0, 0
	for round := range 8 {
		l := drawnEvents(&d, 9, 10)
		var last impl.Hub
		for turn := range 2 {
			h := impl.HubNew()
			for i, e := range l {
				out := checkHubPut(t, "drawn", h, e)
				if out.Code != impl.OK {
					t.Fatalf("%+v can not be put: %d", e, out.Code)
				}
				h = out.Hub
				if len(out.Added) != 1 {
					waited++
				}
				if again := l[d.below(i+1)]; d.below(5) == 0 {
					same(t, "again", checkHubPut(t, "again", h, again).Code, int64(impl.ErrThere))
				}
			}
			if len(h.Stream) < len(l) {
				refused++
			}
			if turn == 1 {
				same(t, "the rooms in another order", h.Rooms, last.Rooms)
				same(t, "how many came", len(h.Stream), len(last.Stream))
			}
			if round < 3 {
				checkHouse(t, "drawn", h)
			}
			last = h
			d.mix(len(l), func(i int, j int) { l[i], l[j] = l[j], l[i] })
		}
	}
	if waited < 100 || refused < 8 {
		t.Errorf("too few waited, or were refused: %d, %d", waited, refused)
	}
}

// Promise 8: what happens in a house is not refused.
func TestWhatHappensIsNotRefused(t *testing.T) {
	d := dice(88)
	codes := map[int64]int{}
	for round := range 6 {
		h := impl.HubNew()
		for range 90 {
			out := checkHubMake(t, "drawn", h, likelyDeed(&d))
			codes[out.Code]++
			if out.Code == impl.OK {
				h = out.Hub
				same(t, "the last one", h.Stream[len(h.Stream)-1].Id, out.Id)
			}
		}
		for _, g := range h.Rooms {
			same(t, "in one row", len(impl.EndsOf(g)), min(len(g.Events), 1))
		}
		if round < 2 {
			checkHouse(t, "drawn", h)
		}
	}
	for _, code := range []int64{impl.OK, impl.ErrForm, impl.ErrThere, impl.ErrState, impl.ErrDenied, impl.ErrNone} {
		if codes[code] < 5 {
			t.Errorf("code %d was told too seldom: %v", code, codes)
		}
	}
}

// Some of it comes, some of it happens, and some of what came waits for what happens.
func TestComingAndHappening(t *testing.T) {
	d := dice(888)
	codes := map[int64]int{}
	met := 0
	for round := range 8 {
		h := impl.HubNew()
		l := drawnEvents(&d, 8, 12)
		for len(l) > 0 {
			out := impl.HubOut{}
			switch d.below(6) {
			case 0, 1, 2:
				out = checkHubPut(t, "drawn", h, l[0])
				l = l[1:]
			case 3:
				out = checkHubPut(t, "waits for what happens next", h, inRoom(int64(1+d.below(3)), says(int64(2+3*d.below(20)), impl.NextId(h))))
			default:
				out = checkHubMake(t, "drawn", h, likelyDeed(&d))
				if len(out.Added) > 1 {
					met++
				}
			}
			codes[out.Code]++
			if out.Code == impl.OK {
				h = out.Hub
			}
		}
		if round < 2 {
			checkHouse(t, "drawn", h)
		}
	}
	if codes[impl.OK] < 200 || codes[impl.ErrThere] < 10 || codes[impl.ErrDenied] < 5 || met == 0 {
		t.Errorf("too little came of it: %v, %d", codes, met)
	}
}

func TestNewHouse(t *testing.T) {
	h := impl.HubNew()
	same(t, "a new house", h, impl.Hub{Rooms: []impl.Graph{{Room: 1}, {Room: 2}, {Room: 3}}})
	same(t, "another one", impl.HubNew(), h)
	isNewMemory(t, "another one", impl.HubNew(), h)
	same(t, "limits", []int{impl.MaxStream, impl.MaxRooms}, []int{120, 3})
	checkHouse(t, "a new house", h)
	same(t, "the first Id", impl.NextId(h), int64(1))
	for room := range int64(impl.MaxRooms) {
		out := checkHubMake(t, "begins", h, inRoom(room+1, begins(77)))
		same(t, "the first Spot", out.Hub.Stream, []impl.Spot{{Room: room + 1, Id: 1}})
		same(t, "no other one", checkHubMake(t, "says", h, inRoom(room+1, says(1))), impl.HubOut{Code: impl.ErrState})
		waits := checkHubPut(t, "waits", h, inRoom(room+1, says(77, 70)))
		same(t, "nothing came", []any{waits.Code, len(waits.Added), len(waits.Hub.Stream), waits.Id}, []any{int64(impl.OK), 0, 0, int64(0)})
		same(t, "what waits counts", impl.NextId(waits.Hub), int64(78))
	}
	h.Rooms[0].Room = 9
	same(t, "one that was changed", impl.HubRight(impl.HubNew()), true)
}

func TestHowTheRoomsStood(t *testing.T) {
	h := impl.HubNew()
	for _, e := range []impl.Event{
		does(1, impl.EvCreate, 0, 0), joins(1), door(1, 1), joins(2), topic(2), inRoom(2, does(6, impl.EvCreate, 0, 0)),
		gives(1, 2, 50), topic(2), does(2, impl.EvMember, 2, impl.MbLeave), inRoom(2, joins(6)), joins(2), does(1, impl.EvMember, 2, impl.MbBan), joins(2),
	} {
		if out := checkHubMake(t, "made", h, e); out.Code == impl.OK {
			h = out.Hub
		}
	}
	// The topic of 2 ahead of its might, and its coming back when it is thrown out, did not happen.
	want := []impl.Spot{{Room: 1, Id: 1}, {Room: 1, Id: 2}, {Room: 1, Id: 3}, {Room: 1, Id: 4}, {Room: 2, Id: 5}, {Room: 1, Id: 6}, {Room: 1, Id: 7}, {Room: 1, Id: 8}, {Room: 2, Id: 9}, {Room: 1, Id: 10}, {Room: 1, Id: 11}}
	same(t, "stream", h.Stream, want)
	for pos, many := range []int{0, 1, 2, 3, 4, 4, 5, 6, 6, 6, 6, 6, 6} {
		same(t, fmt.Sprint("many at ", pos), len(impl.CurrentAt(h, 1, int64(pos))), many)
	}
	for pos, in := range []bool{false, false, false, false, true, true, true, true, false, false, true, false, false} {
		same(t, fmt.Sprint("2 at ", pos), impl.JoinedAt(h, 1, 2, int64(pos)), in)
		same(t, fmt.Sprint("6 at ", pos), impl.JoinedAt(h, 2, 6, int64(pos)), pos >= 9)
		same(t, fmt.Sprint("6 in the other room at ", pos), impl.JoinedAt(h, 1, 6, int64(pos)), false)
	}
	same(t, "places", []int64{impl.PosOf(h, 1, 1), impl.PosOf(h, 2, 5), impl.PosOf(h, 1, 5), impl.PosOf(h, 1, 11), impl.PosOf(h, 1, 12)}, []int64{1, 5, 0, 11, 0})
	checkHouse(t, "written", h)
}

// fullStream has a Stream of just so many, and in room 3 MaxParked that wait for 900.
func fullStream(t *testing.T, many int) impl.Hub {
	t.Helper()
	h := houseOf(talk(many-60), talk(30), talk(30))
	for i := range int64(impl.MaxParked) {
		h.Rooms[2].Parked = append(h.Rooms[2].Parked, inRoom(3, says(800+i, 900)))
	}
	same(t, "a full stream", []any{impl.HubRight(h), len(h.Stream)}, []any{true, many})
	return h
}

func TestStreamLeavesRoom(t *testing.T) {
	last := fullStream(t, impl.MaxStream-21)
	brings := inRoom(3, says(900, 129))
	out := checkHubPut(t, "all that wait", last, brings)
	same(t, "all that wait", []int{int(out.Code), len(out.Added), len(out.Hub.Stream)}, []int{impl.OK, 21, impl.MaxStream})
	same(t, "in their order", []int64{out.Added[0], out.Added[1], out.Added[20]}, []int64{900, 800, 819})
	for _, pos := range []int64{98, 99, 100, 101, impl.MaxStream} {
		checkAt(t, "all that wait", out.Hub, pos)
	}
	made := checkHubMake(t, "one that happens", last, says(0))
	same(t, "one that happens", []any{made.Id, made.Added, len(made.Hub.Stream)}, []any{int64(820), []int64{820}, impl.MaxStream - 20})
	same(t, "one that is refused", len(checkHubPut(t, "refused", last, event(900, 0, topic(5), 100)).Hub.Stream), impl.MaxStream-21)
	more := fullStream(t, impl.MaxStream-20)
	for _, h := range []impl.Hub{more, made.Hub, out.Hub} {
		full := impl.HubOut{Code: impl.ErrFull}
		checkAt(t, "full", h, impl.MaxStream-20)
		for _, e := range []impl.Event{brings, says(950, 110), says(950, 949), says(110, 109), inRoom(3, says(800, 900)), event(950, 0, topic(5), 100), inRoom(2, begins(951))} {
			same(t, "full", checkHubPut(t, "full", h, e), full)
		}
		same(t, "not right", checkHubPut(t, "not right", h, inRoom(4, brings)).Code, int64(impl.ErrForm))
		same(t, "not right", checkHubMake(t, "not right", h, impl.Event{Room: 1, Author: 1, Kind: impl.EvSay}).Code, int64(impl.ErrForm))
		same(t, "what happens", checkHubMake(t, "what happens", h, says(0)), full)
		same(t, "what is refused", checkHubMake(t, "what is refused", h, topic(5)).Code, int64(impl.ErrDenied))
		same(t, "begun twice", checkHubMake(t, "begun twice", h, begins(0)).Code, int64(impl.ErrThere))
	}
	empty := houseOf(talk(60), talk(40))
	same(t, "begun in a full house", checkHubMake(t, "begun", empty, inRoom(3, begins(0))).Code, int64(impl.ErrFull))
	same(t, "not begun in a full house", checkHubMake(t, "not begun", empty, inRoom(3, joins(1))).Code, int64(impl.ErrState))
	same(t, "nothing is left", checkHubPut(t, "begun", empty, inRoom(3, begins(7))).Code, int64(impl.ErrFull))
}

func TestWaitingAndRefused(t *testing.T) {
	h := houseOf(openedAnd())
	many := len(h.Stream)
	out := checkHubPut(t, "waits", h, says(7, 8, 9))
	same(t, "waits", []any{len(out.Added), len(out.Hub.Stream), impl.PosOf(out.Hub, 1, 7)}, []any{0, many, int64(0)})
	same(t, "no second time", checkHubPut(t, "again", out.Hub, says(7, 106)), impl.HubOut{Code: impl.ErrThere})
	out = checkHubPut(t, "still waits", out.Hub, event(8, 0, topic(4), 106))
	same(t, "what is refused is added, without a Spot", []any{out.Added, len(out.Hub.Stream), impl.PosOf(out.Hub, 1, 8)}, []any{[]int64{8}, many, int64(0)})
	out = checkHubPut(t, "behind what waits", out.Hub, event(10, 0, topic(4), 7))
	out = checkHubPut(t, "behind all", out.Hub, says(11, 7, 10))
	checkHouse(t, "behind all", out.Hub)
	out = checkHubPut(t, "brings in", out.Hub, says(9, 8))
	same(t, "all come, but what is refused has no Spot", []any{out.Added, out.Hub.Stream[many:]}, []any{[]int64{9, 7, 10, 11}, []impl.Spot{{Room: 1, Id: 9}, {Room: 1, Id: 7}, {Room: 1, Id: 11}}})
	checkHouse(t, "brings in", out.Hub)
	h = out.Hub
	same(t, "another room", checkHubPut(t, "another room", h, inRoom(2, says(7, 8))).Added, []int64(nil))
	same(t, "the same Id in another room", checkHubPut(t, "the same Id", h, inRoom(2, begins(106))).Hub.Stream[many+3], impl.Spot{Room: 2, Id: 106})
	same(t, "what begins there already", checkHubPut(t, "begins again", h, begins(500)).Added, []int64{500})
}

// What stands behind one that is refused need not stand behind what is ahead of that one.
func TestStreamPastWhatIsRefused(t *testing.T) {
	h := houseOf(openedAnd(says(7, 106), event(8, 0, topic(4), 7), says(9, 8), says(10, 7, 8)))
	at := func(l ...int64) impl.Hub {
		x := twinHub(h)
		for i, id := range l {
			x.Stream[len(x.Stream)-len(l)+i].Id = id
		}
		return x
	}
	for _, l := range [][]int64{{106, 7, 9, 10}, {9, 106, 7, 10}, {106, 9, 7, 10}, {106, 7, 10, 9}} {
		checkHouse(t, fmt.Sprint(l), at(l...))
		out := checkHubMake(t, "goes on", at(l...), says(0))
		same(t, "goes on behind", impl.EventAt(out.Hub.Rooms[0], out.Id).Prev, []int64{9, 10})
	}
	for _, l := range [][]int64{{106, 10, 7, 9}, {7, 106, 9, 10}, {9, 10, 106, 7}, {106, 9, 10, 7}} {
		checkNoHouse(t, fmt.Sprint(l), at(l...))
	}
}

func TestPutOfWrongOnes(t *testing.T) {
	h := houseOf(openedAnd(), talk(4))
	wrong := impl.HubOut{Code: impl.ErrForm}
	for _, e := range []impl.Event{
		{}, begins(0), begins(-1), begins(impl.MaxTime + 1), inRoom(0, begins(7)), inRoom(4, begins(7)), inRoom(-1, begins(7)), inRoom(math.MaxInt64, begins(7)), inRoom(math.MinInt64, begins(7)),
		says(7), says(7, 7), says(7, 106, 105), says(7, 1, 2, 3, 4, 5), event(7, -1, joins(1), 106), event(7, 0, joins(7), 106), event(7, 0, does(0, impl.EvTopic, 0, 0), 106),
		event(106, 0, does(1, impl.EvDoor, 0, 3), 105), {Id: 7, Room: 1, Author: 1, Kind: 9, Prev: []int64{106}}, {Id: 7, Room: 1, Author: 1, Kind: impl.EvSay, Text: letters(impl.MaxBytes + 1), Prev: []int64{106}},
	} {
		same(t, fmt.Sprintf("%+v", e), checkHubPut(t, "wrong", h, e), wrong)
	}
	full := houseOf(talk(impl.MaxEvents))
	for _, e := range []impl.Event{says(7, 100), says(7, 8), begins(7)} {
		same(t, "a full room", checkHubPut(t, "a full room", full, e), impl.HubOut{Code: impl.ErrFull})
	}
	same(t, "there, in a full room", checkHubPut(t, "there", full, says(105, 1)), impl.HubOut{Code: impl.ErrThere})
	same(t, "beside a full room", checkHubPut(t, "beside", full, inRoom(2, begins(7))).Code, int64(impl.OK))
	waits := houseOf(talk(3))
	for i := range int64(impl.MaxParked) {
		waits.Rooms[0].Parked = append(waits.Rooms[0].Parked, says(200+i, 900))
	}
	same(t, "one more that waits", checkHubPut(t, "one more", waits, says(500, 1)), impl.HubOut{Code: impl.ErrFull})
	same(t, "one that does not", checkHubPut(t, "does not", waits, says(500, 102)).Added, []int64{500})
	same(t, "one that waits elsewhere", checkHubPut(t, "elsewhere", waits, inRoom(2, says(500, 1))).Code, int64(impl.OK))
	same(t, "one that happens", checkHubMake(t, "happens", waits, says(0)).Id, int64(220))
}

// Those that wait, and for which there is no room left, go.
func TestMaxEventsHinderInAHouse(t *testing.T) {
	h := houseOf(talk(impl.MaxEvents - 2))
	h.Rooms[0].Parked = []impl.Event{says(300, 400), says(301, 400), says(302, 400), says(303, 999)}
	out := checkHubPut(t, "one that brings in one", h, says(400, 157))
	same(t, "one that brings in one", []any{out.Added, idsOf(out.Hub.Rooms[0].Parked), len(out.Hub.Stream)}, []any{[]int64{400, 300}, []int64{303}, impl.MaxEvents})
	checkHouse(t, "full", out.Hub)
}

func TestHappensAsTheFirst(t *testing.T) {
	h := putAll(t, impl.HubNew(), inRoom(2, begins(30)), says(20, 31), says(8, 9), inRoom(3, says(3, 1)))
	odd := begins(-5)
	odd.Prev = []int64{7, 7, 1, 2, 3, 4}
	out := checkHubMake(t, "where some wait", h, odd)
	same(t, "what waited came with it", []any{out.Id, out.Added, out.Hub.Stream}, []any{int64(31), []int64{31, 20}, []impl.Spot{{Room: 2, Id: 30}, {Room: 1, Id: 31}}})
	same(t, "begun already", checkHubMake(t, "begun", h, inRoom(2, begins(0))), impl.HubOut{Code: impl.ErrThere})
	same(t, "begun now", checkHubMake(t, "begun", out.Hub, begins(0)), impl.HubOut{Code: impl.ErrThere})
	same(t, "begun, and full", checkHubMake(t, "full", houseOf(talk(impl.MaxEvents)), begins(0)), impl.HubOut{Code: impl.ErrThere})
	for _, e := range []impl.Event{joins(1), says(0), topic(1), hides(1, 3), gives(1, 1, 5)} {
		same(t, "not begun", checkHubMake(t, "not begun", h, e), impl.HubOut{Code: impl.ErrState})
		same(t, "not begun, some wait", checkHubMake(t, "not begun", h, inRoom(3, e)), impl.HubOut{Code: impl.ErrState})
	}
}

func TestHappensBehindTheEnds(t *testing.T) {
	var more []impl.Event
	for i := range int64(6) {
		more = append(more, says(10+i, 106))
	}
	h := houseOf(openedAnd(more...))
	out := checkHubMake(t, "many ends", h, says(3, 1, 2))
	made := impl.EventAt(out.Hub.Rooms[0], 107)
	same(t, "the first of them", []any{made.Prev, impl.EndsOf(out.Hub.Rooms[0])}, []any{[]int64{10, 11, 12, 13}, []int64{14, 15, 107}})
	out = checkHubMake(t, "again", out.Hub, says(0))
	same(t, "the others", []any{impl.EventAt(out.Hub.Rooms[0], 108).Prev, impl.EndsOf(out.Hub.Rooms[0])}, []any{[]int64{14, 15, 107}, []int64{108}})
	for id, code := range map[int64]int64{10: impl.OK, 13: impl.OK, 106: impl.OK, 100: impl.OK, 14: impl.ErrNone, 15: impl.ErrNone, 107: impl.ErrNone, 500: impl.ErrNone} {
		same(t, fmt.Sprint("hides ", id), checkHubMake(t, "hides", h, hides(1, id)).Code, code)
	}
	same(t, "hides what is not one's own", checkHubMake(t, "hides", h, hides(3, 14)).Code, int64(impl.ErrDenied))
	sneaks := houseOf(openedAnd(event(7, 0, topic(4), 106), event(8, 0, topic(4), 106), says(9, 8)))
	out = checkHubMake(t, "beside what is refused", sneaks, says(0))
	same(t, "beside what is refused", impl.EventAt(out.Hub.Rooms[0], 107).Prev, []int64{9, 106})
	same(t, "hides what is refused", checkHubMake(t, "hides", sneaks, hides(1, 7)).Code, int64(impl.ErrNone))
	same(t, "hides what is refused, and ahead", checkHubMake(t, "hides", sneaks, hides(1, 8)).Code, int64(impl.OK))
}

// Of more ends than it may stand behind what happens knows only the first ones: the others may have changed the room.
func TestHappensByWhatTheFirstEndsTell(t *testing.T) {
	four := []impl.Event{says(10, 106), says(11, 106), says(12, 106), says(13, 106)}
	h := houseOf(openedAnd(append(four, event(14, 0, does(1, impl.EvMember, 3, impl.MbBan), 106))...))
	thrown := says(0)
	thrown.Author = 3
	same(t, "thrown out now", impl.MemberOf(h.Rooms[0], impl.CurrentOf(h.Rooms[0]), 3), int64(impl.MbBan))
	same(t, "not yet by what it knows", checkHubMake(t, "thrown out", h, thrown).Code, int64(impl.OK))
	h = houseOf(openedAnd(append(four[1:], event(9, 0, does(1, impl.EvMember, 3, impl.MbBan), 106), says(14, 106))...))
	same(t, "thrown out by what it knows", checkHubMake(t, "thrown out", h, thrown).Code, int64(impl.ErrDenied))
}

func TestHappensInAFullRoom(t *testing.T) {
	h := houseOf(talk(impl.MaxEvents), talk(3))
	h.Rooms[0].Parked = []impl.Event{says(300, 301), says(302, 303)}
	stranger := says(0)
	stranger.Author = 2
	for _, r := range []struct {
		e    impl.Event
		code int64
	}{
		{says(0), impl.ErrFull}, {topic(1), impl.ErrFull}, {hides(1, 159), impl.ErrFull}, {hides(1, 100), impl.ErrFull}, {joins(1), impl.ErrFull},
		{stranger, impl.ErrDenied}, {joins(2), impl.ErrDenied}, {hides(1, 160), impl.ErrNone}, {hides(1, 300), impl.ErrNone}, {hides(1, 304), impl.ErrNone},
		{begins(0), impl.ErrThere}, {door(1, 3), impl.ErrForm}, {gives(1, 2, 101), impl.ErrForm}, {inRoom(2, says(0)), impl.OK}, {inRoom(3, says(0)), impl.ErrState},
	} {
		same(t, fmt.Sprintf("%+v", r.e), checkHubMake(t, "full", h, r.e).Code, r.code)
	}
	almost := houseOf(talk(impl.MaxEvents - 1))
	almost.Rooms[0].Parked = []impl.Event{says(300, 301), says(299, 301)}
	slices.Reverse(almost.Rooms[0].Parked)
	out := checkHubMake(t, "the last that fits", almost, says(0))
	same(t, "the last that fits", []any{out.Added, len(out.Hub.Rooms[0].Parked), len(out.Hub.Rooms[0].Events)}, []any{[]int64{301}, 0, impl.MaxEvents})
	same(t, "the last one", checkHubMake(t, "one more", out.Hub, says(0)), impl.HubOut{Code: impl.ErrFull})
}

// What waited for the Id that comes next is there as soon as that one is.
func TestHidesWhatComesWithIt(t *testing.T) {
	h := houseOf(openedAnd())
	ofTwo := says(201, 202)
	ofTwo.Author = 2
	h.Rooms[0].Parked = []impl.Event{ofTwo}
	same(t, "who may", checkHubMake(t, "hides", h, hides(1, 201)).Code, int64(impl.ErrNone))
	same(t, "who may, of one's own", checkHubMake(t, "hides", h, hides(2, 201)).Code, int64(impl.ErrNone))
	same(t, "who may not", checkHubMake(t, "hides", h, hides(3, 201)).Code, int64(impl.ErrDenied))
	same(t, "itself", checkHubMake(t, "hides", h, hides(3, 202)).Code, int64(impl.ErrNone))
	h.Rooms[0].Parked[0].Prev = []int64{203}
	same(t, "what does not come", checkHubMake(t, "hides", h, hides(3, 201)).Code, int64(impl.ErrNone))
}

func TestMakeOfWrongOnes(t *testing.T) {
	h := houseOf(openedAnd())
	wrong := impl.HubOut{Code: impl.ErrForm}
	for _, e := range []impl.Event{
		{}, {Room: 1}, {Room: 1, Author: 1}, {Room: 1, Author: 1, Kind: 9}, {Room: 1, Author: 1, Kind: -1}, inRoom(0, says(0)), inRoom(4, says(0)), inRoom(-1, says(0)), inRoom(math.MaxInt64, says(0)), inRoom(math.MinInt64, says(0)),
		does(0, impl.EvTopic, 0, 0), does(7, impl.EvTopic, 0, 0), does(1, impl.EvTopic, 1, 0), does(1, impl.EvMember, 0, 1), does(1, impl.EvMember, 7, 1), does(1, impl.EvMember, 1, 5), does(1, impl.EvCreate, 1, 0),
		does(1, impl.EvDoor, 0, 0), does(1, impl.EvHide, 0, 0), does(1, impl.EvHide, impl.MaxTime+1, 0), event(0, -1, says(0)), event(0, impl.MaxTime+1, says(0)), {Room: 1, Author: 1, Kind: impl.EvSay},
		{Room: 1, Author: 1, Kind: impl.EvSay, Text: letters(impl.MaxText + 1)}, {Room: 1, Author: 1, Kind: impl.EvSay, Text: letters(impl.MaxBytes + 1)}, {Room: 1, Author: 1, Kind: impl.EvCreate, Text: "x"},
	} {
		same(t, fmt.Sprintf("%+v", e), checkHubMake(t, "wrong", h, e), wrong)
		// Where the room has not begun, or there is no room left, that is named later.
		if e.Room == 1 {
			same(t, fmt.Sprintf("not begun: %+v", e), checkHubMake(t, "wrong", h, inRoom(2, e)), wrong)
			same(t, fmt.Sprintf("full: %+v", e), checkHubMake(t, "wrong", houseOf(talk(60), talk(60)), e), wrong)
		}
	}
	long := says(-9)
	for i := range int64(impl.MaxList + 9) {
		long.Prev = append(long.Prev, -i)
	}
	same(t, "Id and Prev count for nothing", checkHubMake(t, "odd", h, long).Id, int64(107))
	same(t, "a Time at the end", checkHubMake(t, "late", h, event(106, impl.MaxTime, says(0))).Id, int64(107))
}

func TestIdsComeToAnEnd(t *testing.T) {
	before := putAll(t, houseOf(openedAnd()), inRoom(3, says(impl.MaxTime-1, 5)))
	out := checkHubMake(t, "the last Id", before, says(0))
	same(t, "the last Id", []int64{out.Id, impl.NextId(out.Hub)}, []int64{impl.MaxTime, impl.MaxTime + 1})
	checkHouse(t, "the last Id", out.Hub)
	for _, e := range []impl.Event{inRoom(2, begins(impl.MaxTime)), inRoom(2, says(impl.MaxTime, 5)), event(impl.MaxTime, 0, topic(5), 106)} {
		h := putAll(t, houseOf(openedAnd()), e)
		same(t, "one more", impl.NextId(h), int64(impl.MaxTime+1))
		for _, e := range []impl.Event{says(0), begins(0), inRoom(2, begins(0)), inRoom(3, begins(0)), inRoom(3, says(0)), topic(5)} {
			same(t, "no Id is left", checkHubMake(t, "no Id", h, e), impl.HubOut{Code: impl.ErrForm})
		}
		same(t, "but what has one comes", checkHubPut(t, "comes", h, says(7, 106)).Code, int64(impl.OK))
	}
}

// crowded has three rooms with MaxEvents and MaxParked each; of the Events in the middle many are refused, as 5 is not in.
func crowded() impl.Hub {
	var rooms []impl.Graph
	for _, wide := range []int{1, 4, 2} {
		g := fullRoom(func(i int) []int {
			var out []int
			for at := max(0, i-wide); at < i; at++ {
				out = append(out, at)
			}
			return out
		})
		for i := 20; i < 40; i++ {
			g.Events[i] = event(g.Events[i].Id, 0, topic(5), g.Events[i].Prev...)
		}
		for i := range int64(impl.MaxParked) {
			g.Parked = append(g.Parked, says(500+i, 499, 600+i))
		}
		rooms = append(rooms, g)
	}
	return houseOf(rooms...)
}

func TestCrowdedHouses(t *testing.T) {
	h := crowded()
	for _, g := range h.Rooms {
		same(t, "as many as can be", []int{len(g.Events), len(g.Parked)}, []int{impl.MaxEvents, impl.MaxParked})
	}
	same(t, "right", impl.HubRight(h), true)
	if len(h.Stream) < 60 {
		t.Errorf("too few count: %d", len(h.Stream))
	}
	checkHouse(t, "crowded", h)
	for room := range int64(impl.MaxRooms) {
		for _, e := range []impl.Event{says(0), joins(5), begins(0), hides(1, 60), topic(5)} {
			checkHubMake(t, "crowded", h, inRoom(room+1, e))
		}
		for _, e := range []impl.Event{says(400, 60), says(60, 59), says(400, 401)} {
			same(t, "crowded", checkHubPut(t, "crowded", h, inRoom(room+1, e)).Code == impl.OK, false)
		}
	}
	full := houseOf(talk(60), talk(59), talk(1))
	same(t, "MaxStream", len(full.Stream), impl.MaxStream)
	for _, pos := range []int64{0, 59, 60, 61, 62, 118, 119, impl.MaxStream, impl.MaxStream + 1} {
		checkAt(t, "MaxStream", full, pos)
	}
	wide := houseOf(openedAnd(), openedAnd(), openedAnd())
	for i := range wide.Rooms {
		for id := range int64(31) {
			wide.Rooms[i].Events = append(wide.Rooms[i].Events, inRoom(int64(i+1), event(200+id, id%3, topic(1+id%2), 106)))
		}
	}
	wide.Stream = modelCounted(wide.Rooms)
	same(t, "many ends", []any{impl.HubRight(wide), len(wide.Stream), len(impl.EndsOf(wide.Rooms[1]))}, []any{true, 114, 31})
	for _, pos := range []int64{0, 7, 8, 57, 113, 114} {
		checkAt(t, "many ends", wide, pos)
	}
}

func TestWrongHouses(t *testing.T) {
	h := houseOf(openedAnd(says(7, 106), event(8, 0, topic(4), 106)), talk(4), talk(3))
	h.Rooms[0].Parked = []impl.Event{says(500, 999)}
	many := len(h.Stream)
	checkHouse(t, "right", h)
	same(t, "many", many, 15)
	for name, change := range map[string]func(x *impl.Hub){
		"nothing":                      func(x *impl.Hub) { *x = impl.Hub{} },
		"no rooms":                     func(x *impl.Hub) { x.Rooms = nil },
		"no rooms, nothing came":       func(x *impl.Hub) { x.Rooms, x.Stream = nil, nil },
		"too few rooms":                func(x *impl.Hub) { x.Rooms, x.Stream = x.Rooms[:2], x.Stream[:many-3] },
		"too many rooms":               func(x *impl.Hub) { x.Rooms = append(x.Rooms, impl.Graph{Room: 4}) },
		"a room twice at the end":      func(x *impl.Hub) { x.Rooms = append(x.Rooms, twin(x.Rooms[2])) },
		"two in each other's place":    func(x *impl.Hub) { x.Rooms[0], x.Rooms[1] = x.Rooms[1], x.Rooms[0] },
		"the last two likewise":        func(x *impl.Hub) { x.Rooms[1], x.Rooms[2] = x.Rooms[2], x.Rooms[1] },
		"a room twice":                 func(x *impl.Hub) { x.Rooms[2] = twin(x.Rooms[1]); x.Stream = x.Stream[:many-3] },
		"a room of another number":     func(x *impl.Hub) { x.Rooms[2] = impl.Graph{Room: 4}; x.Stream = x.Stream[:many-3] },
		"a room of no number":          func(x *impl.Hub) { x.Rooms[2] = impl.Graph{}; x.Stream = x.Stream[:many-3] },
		"a graph that does not rise":   func(x *impl.Hub) { l := x.Rooms[1].Events; l[0], l[1] = l[1], l[0] },
		"a graph with a wrong event":   func(x *impl.Hub) { x.Rooms[2].Events[2].Text = "" },
		"one of another room":          func(x *impl.Hub) { x.Rooms[2].Events[2].Room = 2 },
		"one that waits for nothing":   func(x *impl.Hub) { x.Rooms[0].Parked[0].Prev = []int64{106} },
		"one that waits, and is there": func(x *impl.Hub) { x.Rooms[0].Parked[0].Id = 106 },
		"a graph with a gap":           func(x *impl.Hub) { x.Rooms[1].Events[2].Prev = []int64{999} },
		"one behind itself":            func(x *impl.Hub) { x.Rooms[1].Events[1].Prev = []int64{103} },
		"a Spot twice":                 func(x *impl.Hub) { x.Stream = append(x.Stream, x.Stream[3]) },
		"a Spot twice, one left out":   func(x *impl.Hub) { x.Stream[many-1] = x.Stream[many-2] },
		"one that is not there":        func(x *impl.Hub) { x.Stream = append(x.Stream, impl.Spot{Room: 1, Id: 9}) },
		"not there, one left out":      func(x *impl.Hub) { x.Stream[many-1].Id = 9 },
		"one that waits":               func(x *impl.Hub) { x.Stream = append(x.Stream, impl.Spot{Room: 1, Id: 500}) },
		"one of no room":               func(x *impl.Hub) { x.Stream = append(x.Stream, impl.Spot{Id: 100}) },
		"no Spot at all":               func(x *impl.Hub) { x.Stream = append(x.Stream, impl.Spot{}) },
		"one of a room below":          func(x *impl.Hub) { x.Stream = append(x.Stream, impl.Spot{Room: math.MinInt64, Id: 100}) },
		"one of a room above":          func(x *impl.Hub) { x.Stream = append(x.Stream, impl.Spot{Room: 4, Id: 100}) },
		"one of another room above":    func(x *impl.Hub) { x.Stream = append(x.Stream, impl.Spot{Room: math.MaxInt64, Id: 100}) },
		"one of a room elsewhere":      func(x *impl.Hub) { x.Stream[many-1].Room = 2 },
		"one that is refused":          func(x *impl.Hub) { x.Stream = append(x.Stream, impl.Spot{Room: 1, Id: 8}) },
		"refused, one left out":        func(x *impl.Hub) { x.Stream[many-1] = impl.Spot{Room: 1, Id: 8} },
		"one ahead of its Prev":        func(x *impl.Hub) { x.Stream[4], x.Stream[5] = x.Stream[5], x.Stream[4] },
		"the last ahead of its Prev":   func(x *impl.Hub) { x.Stream[many-1], x.Stream[many-2] = x.Stream[many-2], x.Stream[many-1] },
		"the first left out":           func(x *impl.Hub) { x.Stream = x.Stream[1:] },
		"one left out":                 func(x *impl.Hub) { x.Stream = slices.Delete(x.Stream, 7, 8) },
		"the last left out":            func(x *impl.Hub) { x.Stream = x.Stream[:many-1] },
		"nothing in the stream":        func(x *impl.Hub) { x.Stream = nil },
		"a long stream":                func(x *impl.Hub) { x.Stream = slices.Repeat(x.Stream, 9) },
		"one that was not refused": func(x *impl.Hub) {
			x.Rooms[0].Events[placeOf(x.Rooms[0].Events, 103)].Kind = impl.EvTopic
			x.Rooms[0].Events[placeOf(x.Rooms[0].Events, 103)].Key = 0
			x.Rooms[0].Events[placeOf(x.Rooms[0].Events, 103)].N = 0
		},
		"one that was refused": func(x *impl.Hub) { x.Rooms[0].Events[placeOf(x.Rooms[0].Events, 8)].Author = 1 },
	} {
		wrong := twinHub(h)
		change(&wrong)
		checkNoHouse(t, name, wrong)
	}
	for _, rooms := range [][]int64{{}, {1}, {1, 2}, {2, 3}, {1, 3}, {1, 2, 3, 3}, {1, 2, 3, 4}, {0, 1, 2}, {2, 3, 4}, {1, 3, 2}, {2, 1, 3}, {3, 2, 1}, {1, 1, 3}, {1, 2, 2}, {1, 1, 1}, {1, 2, 0}, {1, 2, 4}, {1, 2, -3}} {
		var x impl.Hub
		for _, room := range rooms {
			x.Rooms = append(x.Rooms, impl.Graph{Room: room})
		}
		checkNoHouse(t, fmt.Sprint("nothing in ", rooms), x)
	}
	checkNoHouse(t, "very many rooms", impl.Hub{Rooms: slices.Repeat([]impl.Graph{{Room: 1}}, impl.MaxList+1)})
}

// A Stream of just MaxStream is right, and one of one more is not, though all of it is there.
func TestStreamsTooLong(t *testing.T) {
	for many, right := range map[int]bool{impl.MaxStream - 1: true, impl.MaxStream: true, impl.MaxStream + 1: false, impl.MaxStream + 60: false} {
		h := houseOf(talk(60), talk(min(many-60, 60)), talk(max(many-120, 0)))
		same(t, fmt.Sprint(many), []any{len(h.Stream), impl.HubRight(h), impl.NextId(h) > 0, impl.PosOf(h, 1, 100) > 0}, []any{many, right, right, right})
	}
	checkNoHouse(t, "one more", houseOf(talk(60), talk(60), talk(1)))
	checkNoHouse(t, "many more", houseOf(talk(60), talk(60), talk(60)))
}

// Rooms that come one after the other, or by turns, come to another Stream, but are asked alike.
func TestStreamsInOtherOrders(t *testing.T) {
	h := houseOf(openedAnd(), talk(4), talk(3))
	by := twinHub(h)
	slices.SortStableFunc(by.Stream, func(a impl.Spot, b impl.Spot) int { return int(a.Id - b.Id) })
	checkHouse(t, "by turns", by)
	same(t, "by turns", by.Stream[:5], []impl.Spot{{Room: 1, Id: 100}, {Room: 2, Id: 100}, {Room: 3, Id: 100}, {Room: 1, Id: 101}, {Room: 2, Id: 101}})
	same(t, "where it is", []int64{impl.PosOf(by, 3, 101), impl.PosOf(h, 3, 101)}, []int64{6, 13})
	same(t, "who was in", []bool{impl.JoinedAt(by, 3, 1, 5), impl.JoinedAt(by, 3, 1, 6), impl.JoinedAt(h, 3, 1, 12), impl.JoinedAt(h, 3, 1, 13)}, []bool{false, true, false, true})
}

// What is handed in is read anew by each call, and what was told stays as it was.
func TestHousesKeepNothing(t *testing.T) {
	h := houseOf(openedAnd())
	out := impl.HubMake(h, says(0))
	kept, stood := twinHub(out.Hub), impl.CurrentAt(h, 1, 7)
	keptStood := slices.Clone(stood)
	h.Rooms[0].Events[3].Author, h.Rooms[0].Events[3].Key = 4, 4
	same(t, "another one came", []bool{impl.JoinedAt(h, 1, 4, 7), impl.JoinedAt(h, 1, 2, 7)}, []bool{true, false})
	h.Rooms[0].Events[3].Prev[0] = 101
	h.Stream[0].Id = 999
	same(t, "no house any more", []any{impl.HubRight(h), impl.NextId(h), impl.HubMake(h, says(0)).Code}, []any{false, int64(0), int64(impl.ErrForm)})
	same(t, "what was told", []any{twinHub(out.Hub), stood}, []any{kept, keptStood})
	h.Stream[0].Id = 100
	again, more := impl.HubMake(out.Hub, says(0)), impl.HubMake(out.Hub, says(0))
	same(t, "the same again", again, more)
	again.Hub.Stream[0].Id, again.Added[0] = 77, 77
	again.Hub.Rooms[1].Room = 77
	again.Hub.Rooms[0].Events[1].Prev[0] = 77
	same(t, "what was told stays", []any{twinHub(out.Hub), impl.HubMake(out.Hub, says(0)).Id}, []any{kept, more.Id})
}
