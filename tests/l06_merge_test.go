package tests

import (
	"cmp"
	"fmt"
	"math"
	"slices"
	"testing"

	"loop.example/g00683/impl"
)

// A model of the chapter, word by word, on the calls of the earlier chapters, that goes through lists.

func entryFor(e impl.Event) impl.Entry {
	return impl.Entry{Kind: e.Kind, Key: e.Key, Id: e.Id}
}

func modelFits(g impl.Graph, s []impl.Entry) bool {
	return impl.StateRight(s) && !slices.ContainsFunc(s, func(x impl.Entry) bool { return entryFor(impl.EventAt(g, x.Id)) != x })
}

func modelHeavy(e impl.Event) int {
	if e.Kind == impl.EvCreate || e.Kind == impl.EvPower || e.Kind == impl.EvDoor || e.Kind == impl.EvMember && e.Key != e.Author {
		return 0
	}
	return 1
}

// modelParted is what all states have, and, in the order of their turns, the Events that only some have.
func modelParted(g impl.Graph, l [][]impl.Entry) ([]impl.Entry, []impl.Event) {
	var alike []impl.Entry
	var others []impl.Event
	for _, s := range l {
		for _, x := range s {
			e := impl.EventAt(g, x.Id)
			some := slices.ContainsFunc(l, func(s []impl.Entry) bool { return !slices.Contains(s, x) })
			switch {
			case !some && !slices.Contains(alike, x):
				alike = append(alike, x)
			case some && placeOf(others, x.Id) < 0:
				others = append(others, e)
			}
		}
	}
	slices.SortFunc(others, func(a impl.Event, b impl.Event) int {
		return cmp.Or(modelHeavy(a)-modelHeavy(b), cmp.Compare(impl.DepthOf(g, a.Id), impl.DepthOf(g, b.Id)), cmp.Compare(a.Time, b.Time), cmp.Compare(a.Id, b.Id))
	})
	return alike, others
}

func modelResolve(g impl.Graph, l [][]impl.Entry) []impl.Entry {
	if !impl.GraphRight(g) || len(l) > 60 || slices.ContainsFunc(l, func(s []impl.Entry) bool { return !modelFits(g, s) }) {
		return nil
	}
	out, others := modelParted(g, l)
	for _, e := range others {
		if impl.Allowed(g, out, e) == impl.OK {
			out = impl.StatePut(out, entryFor(e)).State
		}
	}
	return out
}

// told is all that the chapter tells of a room.
type told struct {
	ahead, behind map[int64][]impl.Entry
	refused       map[int64]int64
	ends          []int64
	current       []impl.Entry
}

func statesOf(by map[int64][]impl.Entry, ids []int64) [][]impl.Entry {
	var out [][]impl.Entry
	for _, id := range ids {
		out = append(out, by[id])
	}
	return out
}

// modelTold goes along what is sorted, so that all that stands ahead of an Event is known when it comes.
func modelTold(g impl.Graph) told {
	out := told{ahead: map[int64][]impl.Entry{}, behind: map[int64][]impl.Entry{}, refused: map[int64]int64{}}
	for _, id := range impl.SortOf(g) {
		e := impl.EventAt(g, id)
		s := modelResolve(g, statesOf(out.behind, e.Prev))
		code := impl.Allowed(g, s, e)
		if code == impl.OK && e.Kind == impl.EvHide && !impl.AheadOf(g, e.Key, id) {
			code = impl.ErrNone
		}
		out.ahead[id], out.behind[id], out.refused[id] = s, s, code
		if code == impl.OK && impl.IsState(e) {
			out.behind[id] = impl.StatePut(s, entryFor(e)).State
		}
	}
	for _, e := range g.Events {
		follows := func(f impl.Event) bool { return out.refused[f.Id] == 0 && slices.Contains(f.Prev, e.Id) }
		if out.refused[e.Id] == 0 && !slices.ContainsFunc(g.Events, follows) {
			out.ends = append(out.ends, e.Id)
		}
	}
	out.current = modelResolve(g, statesOf(out.behind, out.ends))
	return out
}

// checkResolved holds what several states come to against the model, and what was handed in against what it was.
func checkResolved(t *testing.T, what string, g impl.Graph, l [][]impl.Entry) []impl.Entry {
	t.Helper()
	var handed, all, kept [][]impl.Entry
	for _, s := range l {
		one, whole := roomy(s)
		handed, all, kept = append(handed, one), append(all, whole), append(kept, slices.Clone(whole))
	}
	keptGraph := twin(g)
	got := impl.Resolve(g, handed)
	if want := modelResolve(g, l); !slices.Equal(got, want) {
		t.Errorf("%s: %+v of %+v: got %+v, want %+v", what, l, g, got, want)
	}
	same(t, what+": the states handed in", all, kept)
	same(t, what+": the graph handed in", twin(g), keptGraph)
	for _, s := range handed {
		isNewMemory(t, what, got, s)
	}
	return got
}

// checkTold asks a room all that the chapter tells of it, and of Ids that are not there.
func checkTold(t *testing.T, what string, g impl.Graph) told {
	t.Helper()
	want, kept := modelTold(g), twin(g)
	strange := []int64{0, -1, math.MinInt64, math.MaxInt64, impl.MaxTime, 999999}
	for _, id := range slices.Concat(idsOf(g.Events), idsOf(g.Parked), strange) {
		code, there := want.refused[id]
		if !there {
			code = -1
		}
		ahead, behind := impl.StateAhead(g, id), impl.StateBehind(g, id)
		if got := impl.Refused(g, id); got != code || !slices.Equal(ahead, want.ahead[id]) || !slices.Equal(behind, want.behind[id]) {
			t.Errorf("%s: %d in %+v: got %d, %+v, %+v, want %d, %+v, %+v", what, id, g, got, ahead, behind, code, want.ahead[id], want.behind[id])
		}
		isNewMemory(t, what, ahead, g.Events, g.Parked)
		isNewMemory(t, what, behind, g.Events, g.Parked, ahead)
	}
	if got := impl.EndsOf(g); !slices.Equal(got, want.ends) {
		t.Errorf("%s: the ends of %+v: got %v, want %v", what, g, got, want.ends)
	}
	if got := impl.CurrentOf(g); !slices.Equal(got, want.current) {
		t.Errorf("%s: current of %+v: got %v, want %v", what, g, got, want.current)
	}
	isNewMemory(t, what, impl.EndsOf(g), g.Events, g.Parked)
	isNewMemory(t, what, impl.CurrentOf(g), g.Events, g.Parked)
	same(t, what+": the graph handed in", twin(g), kept)
	return want
}

// checkNothingTold checks that each call refuses a graph, whatever is asked of it.
func checkNothingTold(t *testing.T, what string, g impl.Graph, l [][]impl.Entry) {
	t.Helper()
	same(t, what+": right", impl.GraphRight(g), false)
	kept := twin(g)
	for _, id := range slices.Concat(idsOf(g.Events), idsOf(g.Parked), []int64{0, -1, 999}) {
		same(t, what+": ahead", len(impl.StateAhead(g, id)), 0)
		same(t, what+": behind", len(impl.StateBehind(g, id)), 0)
		same(t, what+": refused", impl.Refused(g, id), int64(-1))
	}
	same(t, what+": ends", len(impl.EndsOf(g)), 0)
	same(t, what+": current", len(impl.CurrentOf(g)), 0)
	same(t, what+": resolved", len(impl.Resolve(g, l)), 0)
	same(t, what+": nothing resolved", len(impl.Resolve(g, nil)), 0)
	same(t, what+": the graph handed in", twin(g), kept)
}

// event is one deed in a room of a test, with the Time of it and what it stands behind.
func event(id int64, time int64, deed impl.Event, prev ...int64) impl.Event {
	deed.Id, deed.Time, deed.Prev = id, time, prev
	return deed
}

func joins(user int64) impl.Event {
	return does(user, impl.EvMember, user, impl.MbJoin)
}

func gives(author int64, key int64, level int64) impl.Event {
	return does(author, impl.EvPower, key, level)
}

func topic(author int64) impl.Event {
	return does(author, impl.EvTopic, 0, 0)
}

func door(author int64, n int64) impl.Event {
	return does(author, impl.EvDoor, 0, n)
}

func hides(author int64, id int64) impl.Event {
	return does(author, impl.EvHide, id, 0)
}

// opened is a row of Events in which 1 begins a room with an open door, 2 comes and is given 60, and 3 comes; 106 is the last.
func opened() []impl.Event {
	return []impl.Event{
		event(100, 0, does(1, impl.EvCreate, 0, 0)), event(101, 0, joins(1), 100), event(102, 0, door(1, 1), 101),
		event(103, 0, joins(2), 102), event(104, 0, gives(1, 2, 60), 103), event(105, 0, joins(3), 104), event(106, 0, says(106), 105),
	}
}

// openedAnd is what opened has, and more.
func openedAnd(more ...impl.Event) impl.Graph {
	return graphOf(append(opened(), more...), nil)
}

// standsAs names of a state the Ids beside those of opened.
func standsAs(s []impl.Entry) []int64 {
	var out []int64
	for _, x := range s {
		if x.Id < 100 || x.Id > 106 {
			out = append(out, x.Id)
		}
	}
	return out
}

// everyOrder tells each order of so many.
func everyOrder(many int, tell func(at []int)) {
	at := make([]int, many)
	for i := range at {
		at[i] = i
	}
	var step func(from int)
	step = func(from int) {
		if from == many {
			tell(at)
			return
		}
		for i := from; i < many; i++ {
			at[from], at[i] = at[i], at[from]
			step(from + 1)
			at[from], at[i] = at[i], at[from]
		}
	}
	step(0)
}

// checkAnyOrder resolves states in each order, and with each of them twice, at each end, and tells what they come to.
func checkAnyOrder(t *testing.T, what string, g impl.Graph, l [][]impl.Entry) []impl.Entry {
	t.Helper()
	want := checkResolved(t, what, g, l)
	everyOrder(len(l), func(at []int) {
		var turned [][]impl.Entry
		for _, i := range at {
			turned = append(turned, l[i])
		}
		for i, s := range turned {
			twice := slices.Insert(slices.Clone(turned), i, s)
			if got := impl.Resolve(g, twice); !slices.Equal(got, want) {
				t.Errorf("%s: one twice: got %+v, want %+v", what, got, want)
			}
			if got := impl.Resolve(g, append(slices.Clone(turned), s)); !slices.Equal(got, want) {
				t.Errorf("%s: one again at the end: got %+v, want %+v", what, got, want)
			}
		}
		if got := impl.Resolve(g, turned); !slices.Equal(got, want) {
			t.Errorf("%s: in another order: got %+v, want %+v", what, got, want)
		}
	})
	return want
}

// drawnMerge is a room whose ways part and meet; its Ids do not tell in which order they came.
func drawnMerge(d *dice, many int) impl.Graph {
	ids := make([]int64, many)
	for i := range ids {
		ids[i] = int64(3*i + 1)
	}
	d.mix(many, func(i int, j int) { ids[i], ids[j] = ids[j], ids[i] })
	var l []impl.Event
	for i, id := range ids {
		var prev []int64
		e := drawnDeed(d, id, 999)
		if i < len(opened()) {
			e = opened()[i]
			prev = ids[max(0, i-1):i]
		}
		for i >= len(opened()) && (len(prev) == 0 || len(prev) < impl.MaxPrev && d.below(3) == 0) {
			if p := ids[i-1-d.below(min(i, 6))]; !slices.Contains(prev, p) {
				prev = append(prev, p)
			}
		}
		prev = slices.Clone(prev)
		slices.Sort(prev)
		if e.Kind == impl.EvHide {
			e.Key = ids[d.below(many)]
		}
		if i > 10 && d.below(30) == 0 {
			e, prev = does(int64(1+d.below(3)), impl.EvCreate, 0, 0), nil
		}
		l = append(l, event(id, int64(d.below(3)), e, prev...))
	}
	return graphOf(l, nil)
}

// drawnStateOf has of each Kind and Key one of the Events, or none: it may be one to which no way leads.
func drawnStateOf(d *dice, g impl.Graph) []impl.Entry {
	var out []impl.Entry
	for _, e := range g.Events {
		if impl.IsState(e) && d.below(3) > 0 {
			out = impl.StatePut(out, entryFor(e)).State
		}
	}
	return out
}

// Promise 7: several states come to one that does not ask in which order they stand, nor how often.
func TestStatesInEveryOrder(t *testing.T) {
	d := dice(7)
	disputes, left := 0, 0
	for range 40 {
		g := drawnMerge(&d, 20+d.below(30))
		for range 4 {
			var l [][]impl.Entry
			for range 1 + d.below(4) {
				l = append(l, impl.StateBehind(g, g.Events[d.below(len(g.Events))].Id))
			}
			_, others := modelParted(g, l)
			came := checkAnyOrder(t, "of events", g, l)
			for _, e := range others {
				disputes++
				if !slices.Contains(came, entryFor(e)) {
					left++
				}
			}
			checkAnyOrder(t, "drawn", g, [][]impl.Entry{drawnStateOf(&d, g), drawnStateOf(&d, g), drawnStateOf(&d, g)})
			checkAnyOrder(t, "mixed", g, [][]impl.Entry{l[0], drawnStateOf(&d, g), nil})
		}
	}
	if disputes < 500 || left < 100 {
		t.Errorf("too few: %d, %d", disputes, left)
	}
}

// Rooms that are drawn tell what the model tells, and enough of each thing happens in them.
func TestDrawnMerges(t *testing.T) {
	d := dice(77)
	codes, severalEnds := map[[2]int64]int{}, 0
	for range 60 {
		g := drawnMerge(&d, 10+d.below(impl.MaxEvents-9))
		out := checkTold(t, "drawn", g)
		for _, e := range g.Events {
			codes[[2]int64{e.Kind, out.refused[e.Id]}]++
		}
		if len(out.ends) > 1 {
			severalEnds++
		}
	}
	for kind := int64(impl.EvMember); kind <= impl.EvHide; kind++ {
		for _, code := range []int64{impl.OK, impl.ErrDenied} {
			if codes[[2]int64{kind, code}] < 10 {
				t.Errorf("of the Kind %d too few told %d: %v", kind, code, codes)
			}
		}
	}
	if codes[[2]int64{impl.EvHide, impl.ErrNone}] < 10 || codes[[2]int64{impl.EvCreate, impl.OK}] < 70 || severalEnds < 30 {
		t.Errorf("too few: %v, %d", codes, severalEnds)
	}
}

// What comes in by and by, in any order, comes to the same as when all is there at once.
func TestMergesDoNotAskHowTheyCame(t *testing.T) {
	d := dice(777)
	for range 10 {
		whole := drawnMerge(&d, 20)
		want := checkTold(t, "whole", whole)
		l := slices.Clone(whole.Events)
		d.mix(len(l), func(i int, j int) { l[i], l[j] = l[j], l[i] })
		g := impl.Graph{Room: 1}
		for _, e := range l {
			g = impl.GraphPut(g, e).Graph
			checkTold(t, "by and by", g)
		}
		same(t, "all are there", len(g.Events), 20)
		same(t, "ends", impl.EndsOf(g), want.ends)
		same(t, "current", impl.CurrentOf(g), want.current)
	}
}

func TestOneStateAloneStays(t *testing.T) {
	d := dice(70)
	for range 40 {
		g := drawnMerge(&d, 30)
		for _, s := range [][]impl.Entry{drawnStateOf(&d, g), impl.StateBehind(g, g.Events[d.below(30)].Id), nil} {
			for _, many := range []int{1, 2, 3, impl.MaxEvents} {
				same(t, "alone", checkResolved(t, "alone", g, slices.Repeat([][]impl.Entry{s}, many)), s)
			}
		}
		same(t, "none", len(checkResolved(t, "none", g, nil)), 0)
		same(t, "none", len(checkResolved(t, "none", g, [][]impl.Entry{})), 0)
	}
	g := openedAnd()
	lone := []impl.Entry{{Kind: impl.EvMember, Key: 3, Id: 105}}
	same(t, "to which no way leads", checkResolved(t, "alone", g, [][]impl.Entry{lone, lone}), lone)
	same(t, "that not all have, and that is not allowed", len(checkResolved(t, "two", g, [][]impl.Entry{lone, nil})), 0)
	created := []impl.Entry{{Kind: impl.EvCreate, Id: 100}}
	same(t, "that only one has, and that is allowed", checkResolved(t, "two", g, [][]impl.Entry{created, nil}), created)
}

// checkMeeting lets two ways meet, and tells what stands beside what opened has.
func checkMeeting(t *testing.T, what string, want []int64, more ...impl.Event) {
	t.Helper()
	g := openedAnd(more...)
	out := checkTold(t, what, g)
	same(t, what, standsAs(out.current), want)
	checkAnyOrder(t, what, g, statesOf(out.behind, out.ends))
}

// Of two of one Kind and Key the one stays that is put last.
func TestWhichOfTwoIsPutLast(t *testing.T) {
	for _, deed := range []struct {
		name string
		make func(i int) impl.Event
	}{
		{"two others", func(i int) impl.Event { return topic(int64(1 + i)) }},
		{"two others", func(i int) impl.Event { return does(int64(1+i), impl.EvSight, 0, int64(1+i)) }},
		{"two others of oneself", func(int) impl.Event { return joins(3) }},
		{"two heavy ones", func(i int) impl.Event { return door(int64(1+i), int64(1+i)) }},
		{"two heavy ones", func(i int) impl.Event { return gives(1, 2, int64(51+i)) }},
		{"two heavy ones", func(i int) impl.Event { return does(int64(1+i), impl.EvMember, 4, impl.MbAsked) }},
	} {
		one, other := deed.make(0), deed.make(1)
		checkMeeting(t, deed.name+": by Time", []int64{7}, event(7, 5, one, 106), event(8, 4, other, 106))
		checkMeeting(t, deed.name+": by Time, the other way round", []int64{8}, event(7, 4, one, 106), event(8, 5, other, 106))
		checkMeeting(t, deed.name+": by Id", []int64{8}, event(7, 5, one, 106), event(8, 5, other, 106))
		checkMeeting(t, deed.name+": by Id, the other way round", []int64{8}, event(8, 5, one, 106), event(7, 5, other, 106))
		checkMeeting(t, deed.name+": by Depth", []int64{7}, event(9, 0, says(9), 106), event(7, 3, one, 9), event(8, 5, other, 106))
		checkMeeting(t, deed.name+": by Depth, the other way round", []int64{8}, event(9, 9, says(9), 106), event(7, 5, one, 106), event(8, 3, other, 9))
	}
}

// What is heavy goes first, however deep it stands, and whenever it was; what hangs on it does not come to pass any more.
func TestHeavyOnesGoFirst(t *testing.T) {
	late := []impl.Event{event(20, 9, says(20), 106), event(21, 9, says(21), 20), event(22, 9, says(22), 21)}
	met := func(what string, want []int64, more ...impl.Event) {
		t.Helper()
		checkMeeting(t, what, want, append(slices.Clone(late), more...)...)
	}
	met("might taken away later, from one who had set the topic", []int64{30}, event(30, 9, gives(1, 2, 0), 22), event(7, 0, topic(2), 106))
	met("might that is enough", []int64{30, 7}, event(30, 9, gives(1, 2, 50), 22), event(7, 0, topic(2), 106))
	met("thrown out later, who had set the topic", []int64{30}, event(30, 9, does(1, impl.EvMember, 2, impl.MbBan), 22), event(7, 0, topic(2), 106))
	met("gone of oneself later, who had set the topic", []int64{30, 7}, event(30, 9, does(2, impl.EvMember, 2, impl.MbLeave), 22), event(7, 0, topic(2), 106))
	met("the door shut later, and one who came", []int64{30}, event(30, 9, door(1, 2), 22), event(7, 0, joins(4), 106))
	met("thrown out later, and one who came", []int64{30}, event(30, 9, does(1, impl.EvMember, 4, impl.MbBan), 22), event(7, 0, joins(4), 106))
	met("asked in later, and one who came", []int64{7}, event(30, 9, does(1, impl.EvMember, 4, impl.MbAsked), 22), event(7, 0, joins(4), 106))
	met("asked in, and one who came later", []int64{30}, event(7, 0, does(1, impl.EvMember, 4, impl.MbAsked), 106), event(30, 9, joins(4), 22))
	met("the topic is not heavy", []int64{30}, event(30, 9, topic(1), 22), event(7, 0, topic(2), 106))
	met("the sight is not heavy", []int64{30, 31}, event(30, 9, gives(1, 2, 0), 22), event(7, 0, does(2, impl.EvSight, 0, 1), 106), event(31, 9, does(1, impl.EvSight, 0, 3), 22))
}

// Of an EvPower that takes might, and one done by it, only what goes first counts.
func TestMightTakenAway(t *testing.T) {
	takes, made := gives(1, 2, 0), gives(2, 3, 55)
	checkMeeting(t, "taken first", []int64{7}, event(7, 1, takes, 106), event(8, 2, made, 106))
	checkMeeting(t, "taken behind it", []int64{7, 8}, event(7, 2, takes, 106), event(8, 1, made, 106))
	checkMeeting(t, "taken first, by Id", []int64{7}, event(7, 2, takes, 106), event(8, 2, made, 106))
	checkMeeting(t, "taken behind it, by Id", []int64{8, 7}, event(8, 2, takes, 106), event(7, 2, made, 106))
	checkMeeting(t, "taken first, by Depth", []int64{7}, event(7, 9, takes, 106), event(9, 0, says(9), 106), event(8, 0, made, 9))
	checkMeeting(t, "taken behind it, by Depth", []int64{7, 8}, event(9, 0, says(9), 106), event(7, 0, takes, 9), event(8, 9, made, 106))
	checkMeeting(t, "who is given as much can't be thrown out", []int64{7}, event(7, 1, gives(2, 3, 60), 106), event(8, 2, does(2, impl.EvMember, 3, impl.MbBan), 106))
	checkMeeting(t, "who is thrown out first", []int64{8, 7}, event(7, 2, gives(2, 3, 60), 106), event(8, 1, does(2, impl.EvMember, 3, impl.MbBan), 106))
	checkMeeting(t, "who throws each other out", []int64{7, 9}, event(9, 0, gives(1, 3, 59), 106), event(7, 1, does(2, impl.EvMember, 3, impl.MbBan), 9), event(8, 2, does(3, impl.EvMember, 1, impl.MbBan), 9))
}

// What is not allowed when its turn comes is left out, though it would be allowed behind what comes then.
func TestTurnsDoNotComeAgain(t *testing.T) {
	comes, throws, other := event(7, 0, joins(4), 106), event(9, 0, does(4, impl.EvMember, 3, impl.MbBan), 8), event(10, 0, topic(1), 106)
	given := event(8, 0, gives(1, 4, 50), 7)
	g := openedAnd(comes, given, throws, other)
	out := checkTold(t, "throws", g)
	same(t, "on its own way", standsAs(out.behind[9]), []int64{9, 7, 8})
	same(t, "where ways meet: its author was not in yet", standsAs(out.current), []int64{7, 8, 10})
	same(t, "behind both it is allowed", impl.Allowed(g, out.current, throws), int64(impl.OK))

	base := impl.StateBehind(openedAnd(), 103)
	made, might := event(7, 0, gives(2, 3, 50), 106), event(8, 1, gives(1, 2, 70), 106)
	g = openedAnd(made, might)
	l := [][]impl.Entry{impl.StatePut(base, entryFor(made)).State, impl.StatePut(base, entryFor(might)).State}
	same(t, "might that comes too late", standsAs(checkAnyOrder(t, "too late", g, l)), []int64{8})
	made.Time = 2
	same(t, "might that is there", standsAs(checkAnyOrder(t, "there", openedAnd(made, might), l)), []int64{8, 7})
}

// Of several EvCreate the one that goes first is the room's; the others find it begun.
func TestSeveralBeginningsMeet(t *testing.T) {
	for _, r := range []struct {
		times [2]int64
		want  int64
	}{{[2]int64{0, 0}, 4}, {[2]int64{0, 1}, 4}, {[2]int64{1, 0}, 5}} {
		one, other := event(4, r.times[0], does(1, impl.EvCreate, 0, 0)), event(5, r.times[1], does(2, impl.EvCreate, 0, 0))
		g := graphOf([]impl.Event{one, other, event(6, 0, joins(1), 4), event(7, 0, joins(2), 5), event(8, 0, joins(1), 6, 7)}, nil)
		out := checkTold(t, "two", g)
		same(t, "the first one", impl.StateAt(out.ahead[8], impl.EvCreate, 0), r.want)
		same(t, "who came there", impl.MemberOf(g, out.ahead[8], r.want-3), int64(impl.MbJoin))
		same(t, "who came to the other one", impl.MemberOf(g, out.ahead[8], 6-r.want), int64(0))
		checkAnyOrder(t, "two", g, [][]impl.Entry{out.behind[6], out.behind[7], out.behind[4], out.behind[5]})
	}
}

func TestOnlyTheBeginning(t *testing.T) {
	for _, g := range []impl.Graph{graphOf([]impl.Event{begins(4)}, nil), graphOf([]impl.Event{begins(4)}, []impl.Event{says(9, 8)})} {
		created := []impl.Entry{{Kind: impl.EvCreate, Id: 4}}
		out := checkTold(t, "only the beginning", g)
		same(t, "ahead", len(impl.StateAhead(g, 4)), 0)
		same(t, "behind", impl.StateBehind(g, 4), created)
		same(t, "refused", impl.Refused(g, 4), int64(impl.OK))
		same(t, "ends", impl.EndsOf(g), []int64{4})
		same(t, "current", out.current, created)
		same(t, "parked", []any{impl.Refused(g, 9), len(impl.StateAhead(g, 9)), len(impl.StateBehind(g, 9))}, []any{int64(-1), 0, 0})
	}
	for _, g := range []impl.Graph{{Room: 1}, {Room: 3, Parked: []impl.Event{event(9, 0, impl.Event{Room: 3, Author: 1, Kind: impl.EvSay, Text: "waits"}, 8)}}} {
		same(t, "right", impl.GraphRight(g), true)
		checkTold(t, "nothing", g)
		same(t, "nothing", []any{len(impl.EndsOf(g)), len(impl.CurrentOf(g)), len(impl.Resolve(g, make([][]impl.Entry, 3)))}, []any{0, 0, 0})
	}
}

func TestWhatIsHiddenMustBeAhead(t *testing.T) {
	ofThree := says(7)
	ofThree.Author = 3
	g := openedAnd(event(7, 0, ofThree, 106), event(8, 0, says(8), 106),
		event(10, 0, hides(3, 7), 7), event(11, 0, hides(2, 7), 7), event(12, 0, hides(3, 100), 7),
		event(20, 0, hides(1, 7), 8), event(21, 0, hides(3, 7), 8), event(22, 0, hides(3, 8), 7), event(23, 0, hides(4, 7), 8),
		event(24, 0, hides(1, 24), 8), event(25, 0, hides(1, 999), 8), event(26, 0, hides(1, 500), 8), event(27, 0, hides(1, 28), 8), event(28, 0, says(28), 27),
		event(29, 0, hides(1, 7), 8, 10), event(30, 0, hides(1, 10), 10), event(31, 0, hides(1, 20), 29), event(32, 0, hides(4, 999), 8))
	g.Parked = []impl.Event{says(500, 999)}
	checkTold(t, "hidden", g)
	for id, want := range map[int64]int64{
		10: impl.OK, 11: impl.OK, 12: impl.ErrDenied,
		20: impl.ErrNone, 21: impl.ErrNone, 22: impl.ErrDenied, 23: impl.ErrDenied,
		24: impl.ErrNone, 25: impl.ErrNone, 26: impl.ErrNone, 27: impl.ErrNone,
		28: impl.OK, 29: impl.OK, 30: impl.OK, 31: impl.ErrNone, 32: impl.ErrDenied,
	} {
		same(t, fmt.Sprintf("%d is refused", id), impl.Refused(g, id), want)
	}
	same(t, "nothing of it is a part of how it stands", impl.StateBehind(g, 10), impl.StateBehind(openedAnd(), 106))
}

// What is refused changes nothing for what stands behind it, and hides no end.
func TestWhatIsRefused(t *testing.T) {
	sneaks := event(7, 0, topic(4), 106)
	g := openedAnd(sneaks, event(8, 0, topic(1), 7), event(9, 0, says(9), 7), event(10, 0, joins(4), 106), event(11, 0, topic(4), 10), event(12, 0, says(12), 8, 11))
	out := checkTold(t, "refused", g)
	same(t, "who is not in", []int64{out.refused[7], out.refused[11], out.refused[8]}, []int64{impl.ErrDenied, impl.ErrDenied, impl.OK})
	same(t, "behind what is refused", impl.StateBehind(g, 7), impl.StateAhead(g, 7))
	same(t, "behind that", standsAs(impl.StateBehind(g, 8)), []int64{8})
	same(t, "where they meet", standsAs(impl.StateAhead(g, 12)), []int64{10, 8})
	// 106 and 10: what stands behind these directly is refused, or stands beside.
	same(t, "ends", impl.EndsOf(g), []int64{9, 10, 12})
	g = openedAnd(sneaks)
	same(t, "only one that is refused", impl.EndsOf(g), []int64{106})
	g = openedAnd(sneaks, event(8, 0, topic(1), 7))
	same(t, "one behind one that is refused", impl.EndsOf(g), []int64{8, 106})
	checkTold(t, "an end ahead of another one", g)
	same(t, "current", standsAs(impl.CurrentOf(g)), []int64{8})
	g = graphOf([]impl.Event{event(1, 0, does(1, impl.EvCreate, 0, 0)), event(2, 0, says(2), 1), event(3, 0, says(3), 2)}, nil)
	same(t, "all but the first", []int64{impl.Refused(g, 1), impl.Refused(g, 2), impl.Refused(g, 3)}, []int64{impl.OK, impl.ErrDenied, impl.ErrDenied})
	same(t, "the end", impl.EndsOf(g), []int64{1})
	checkTold(t, "all but the first", g)
}

func TestManyStates(t *testing.T) {
	var more []impl.Event
	for i := range int64(impl.MaxEvents - len(opened())) {
		more = append(more, event(1+i, 90-i, topic(1+i%2), 106))
	}
	g := openedAnd(more...)
	same(t, "as many as can be", len(g.Events), impl.MaxEvents)
	var l [][]impl.Entry
	for _, e := range g.Events {
		l = append(l, impl.StateBehind(g, e.Id))
	}
	got := checkResolved(t, "MaxEvents states", g, l)
	same(t, "MaxEvents states", standsAs(got), []int64{1})
	same(t, "MaxEvents states, the other way round", func() []impl.Entry { slices.Reverse(l); return checkResolved(t, "reversed", g, l) }(), got)
	same(t, "one more", len(checkResolved(t, "one more", g, append(slices.Clone(l), l[0]))), 0)
	same(t, "MaxEvents of nothing", len(checkResolved(t, "nothing", g, make([][]impl.Entry, impl.MaxEvents))), 0)
	for _, many := range []int{impl.MaxEvents, impl.MaxEvents + 1, impl.MaxList, impl.MaxList + 1} {
		want := got
		if many > impl.MaxEvents {
			want = nil
		}
		same(t, fmt.Sprint(many, " times the same"), checkResolved(t, "the same", g, slices.Repeat([][]impl.Entry{got}, many)), want)
	}
}

// fullRoom has MaxEvents, each behind as many of the last ones as is told, and each Kind among them.
func fullRoom(back func(i int) []int) impl.Graph {
	d := dice(60)
	var l []impl.Event
	for i := range impl.MaxEvents {
		e := drawnDeed(&d, 1, 2)
		// Where ways meet that do not agree on the first one's coming, nothing heavy would be left.
		for e.Kind == impl.EvMember && e.Key == 1 {
			e = drawnDeed(&d, 1, 2)
		}
		if i < len(opened()) {
			e = opened()[i]
		}
		var prev []int64
		for _, at := range back(i) {
			prev = append(prev, l[at].Id)
		}
		l = append(l, event(int64(i+1), int64(i%3), e, prev...))
	}
	return graphOf(l, nil)
}

func TestFullRooms(t *testing.T) {
	row := fullRoom(func(i int) []int {
		return []int{i - 1}[:min(i, 1)]
	})
	ways := fullRoom(func(i int) []int {
		return []int{min(i-1, 6)}[:min(i, 1)]
	})
	dense := fullRoom(func(i int) []int {
		var out []int
		for at := max(0, i-impl.MaxPrev); at < i; at++ {
			out = append(out, at)
		}
		return out
	})
	for _, r := range []struct {
		name string
		g    impl.Graph
		ends int
	}{{"in one row", row, 1}, {"in many ways", ways, 10}, {"behind MaxPrev others", dense, 1}} {
		same(t, r.name, []any{impl.GraphRight(r.g), len(r.g.Events)}, []any{true, impl.MaxEvents})
		out := checkTold(t, r.name, r.g)
		if len(out.ends) < r.ends || len(out.current) < 6 {
			t.Errorf("%s: too little came of it: %v, %v", r.name, out.ends, out.current)
		}
		var l [][]impl.Entry
		for _, e := range r.g.Events {
			l = append(l, impl.StateBehind(r.g, e.Id))
		}
		want := checkResolved(t, r.name, r.g, l)
		slices.Reverse(l)
		same(t, r.name+": reversed", checkResolved(t, r.name, r.g, l), want)
	}
}

// Each of MaxEvents is a beginning of its own, and an end.
func TestFullOfBeginnings(t *testing.T) {
	var l []impl.Event
	for i := range int64(impl.MaxEvents) {
		l = append(l, event(1+i, (i-30)*(i-30), does(1+i%6, impl.EvCreate, 0, 0)))
	}
	g := graphOf(l, nil)
	checkTold(t, "beginnings", g)
	same(t, "ends", impl.EndsOf(g), idsOf(g.Events))
	same(t, "the first one", impl.CurrentOf(g), []impl.Entry{{Kind: impl.EvCreate, Id: 31}})
}

func TestMergesOfWrongGraphs(t *testing.T) {
	g := openedAnd(event(7, 0, topic(1), 106), event(8, 0, topic(2), 106))
	g.Parked = []impl.Event{says(500, 999)}
	l := [][]impl.Entry{impl.StateBehind(g, 7), impl.StateBehind(g, 8)}
	checkTold(t, "right", g)
	for _, change := range []func(g *impl.Graph){
		func(g *impl.Graph) { g.Room = 0 },
		func(g *impl.Graph) { g.Room = 2 },
		func(g *impl.Graph) { g.Events[8].Author = 7 },
		func(g *impl.Graph) { g.Events[0], g.Events[1] = g.Events[1], g.Events[0] },
		func(g *impl.Graph) { g.Events[1] = twinEvent(g.Events[0]) },
		func(g *impl.Graph) { g.Events[3].Prev = []int64{999} },
		func(g *impl.Graph) { g.Events[3].Prev = []int64{500} },
		func(g *impl.Graph) { g.Events[3].Prev = []int64{106} },
		func(g *impl.Graph) { g.Events[0].Prev = []int64{8}; g.Events[1].Prev = []int64{7} },
		func(g *impl.Graph) { g.Parked[0].Prev = []int64{100} },
		func(g *impl.Graph) { g.Parked[0].Id = 106 },
		func(g *impl.Graph) { g.Parked = append(g.Parked, g.Parked[0]) },
	} {
		wrong := twin(g)
		change(&wrong)
		checkNothingTold(t, "a graph that is not right", wrong, l)
	}
	checkNothingTold(t, "no graph", impl.Graph{}, nil)
	checkNothingTold(t, "one more than MaxEvents", star(impl.MaxEvents+1, 0), [][]impl.Entry{{{Kind: impl.EvCreate, Id: 1}}})
}

func TestMergesOfWrongStates(t *testing.T) {
	g := openedAnd(event(7, 0, topic(1), 106), event(8, 0, topic(2), 106))
	waits := event(500, 0, topic(1), 999)
	g.Parked = []impl.Event{waits}
	one, other := impl.StateBehind(g, 7), impl.StateBehind(g, 8)
	same(t, "right", standsAs(checkAnyOrder(t, "right", g, [][]impl.Entry{one, other})), []int64{8})
	wrong := [][]impl.Entry{
		{entryFor(waits)}, {{Kind: impl.EvTopic, Id: 999}}, {{Kind: impl.EvTopic, Key: 1, Id: 7}}, {{Kind: impl.EvSight, Id: 7}},
		{{Kind: impl.EvSay, Id: 106}}, {{Kind: impl.EvTopic}}, {{Kind: impl.EvTopic, Id: -1}}, {{}},
		{entryFor(g.Events[0]), entryFor(g.Events[0])}, {entryFor(g.Events[0]), entryFor(g.Events[1])},
		{one[1], one[0]}, slices.Repeat(one, 80), make([]impl.Entry, impl.MaxList+1),
		append(slices.Clone(one[:len(one)-1]), impl.Entry{Kind: impl.EvMember, Key: 6, Id: 103}),
	}
	for _, s := range wrong {
		same(t, fmt.Sprintf("%+v fits", s), modelFits(g, s), false)
		for at := range 4 {
			l := slices.Insert([][]impl.Entry{one, other, nil}, at, s)
			same(t, "among others", len(checkResolved(t, "among others", g, l)), 0)
			same(t, "among many", len(checkResolved(t, "among many", g, append(slices.Repeat([][]impl.Entry{one}, impl.MaxEvents-4), l...))), 0)
		}
		same(t, "alone", len(checkResolved(t, "alone", g, [][]impl.Entry{s})), 0)
		same(t, "twice", len(checkResolved(t, "twice", g, [][]impl.Entry{s, s})), 0)
	}
}

// What is handed in is read anew by each call, and what was told stays as it was.
func TestMergesKeepNothing(t *testing.T) {
	g := openedAnd(event(7, 5, topic(1), 106), event(8, 4, topic(2), 106))
	l := [][]impl.Entry{impl.StateBehind(g, 7), impl.StateBehind(g, 8)}
	now := func() []any {
		return []any{standsAs(impl.Resolve(g, l)), standsAs(impl.CurrentOf(g)), standsAs(impl.StateBehind(g, 8)), impl.Refused(g, 8), impl.EndsOf(g), len(impl.StateAhead(g, 8))}
	}
	earlier, ends := impl.CurrentOf(g), impl.EndsOf(g)
	keptEarlier, keptEnds := slices.Clone(earlier), slices.Clone(ends)
	same(t, "at first", now(), []any{[]int64{7}, []int64{7}, []int64{8}, int64(0), []int64{7, 8}, 6})
	same(t, "again", now(), []any{[]int64{7}, []int64{7}, []int64{8}, int64(0), []int64{7, 8}, 6})
	g.Events[placeOf(g.Events, 8)].Time = 6
	same(t, "another Time", now(), []any{[]int64{8}, []int64{8}, []int64{8}, int64(0), []int64{7, 8}, 6})
	g.Events[placeOf(g.Events, 104)].N = 49
	same(t, "less might", now(), []any{[]int64{7}, []int64{7}, []int64(nil), int64(impl.ErrDenied), []int64{7}, 6})
	l[0][0].Id = 999
	same(t, "no state", now(), []any{[]int64(nil), []int64{7}, []int64(nil), int64(impl.ErrDenied), []int64{7}, 6})
	same(t, "what was told", []any{earlier, ends}, []any{keptEarlier, keptEnds})
	for i := range earlier {
		earlier[i] = impl.Entry{}
	}
	same(t, "what was told, changed", standsAs(impl.CurrentOf(g)), []int64{7})
}
