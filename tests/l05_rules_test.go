package tests

import (
	"fmt"
	"math"
	"slices"
	"testing"

	"loop.example/g00683/impl"
)

// A model of the chapter, that goes through lists, and names what hinders in the order of the document.

func modelIsStateOf(g impl.Graph, s []impl.Entry) bool {
	if !modelRight(g) || !modelStateRight(s) {
		return false
	}
	for _, x := range s {
		i := placeOf(g.Events, x.Id)
		if i < 0 || g.Events[i].Kind != x.Kind || g.Events[i].Key != x.Key {
			return false
		}
	}
	return true
}

// modelLast is the event that a state names, and whether it names one.
func modelLast(g impl.Graph, s []impl.Entry, kind int64, key int64) (impl.Event, bool) {
	i := slotPlace(s, kind, key)
	if i < 0 {
		return impl.Event{}, false
	}
	return g.Events[placeOf(g.Events, s[i].Id)], true
}

func modelMember(g impl.Graph, s []impl.Entry, user int64) int64 {
	if !modelIsStateOf(g, s) || user < 1 || user > 6 {
		return 0
	}
	e, _ := modelLast(g, s, impl.EvMember, user)
	return e.N
}

func modelLevel(g impl.Graph, s []impl.Entry, user int64) int64 {
	if !modelIsStateOf(g, s) || user < 1 || user > 6 {
		return 0
	}
	if e, given := modelLast(g, s, impl.EvPower, user); given {
		return e.N
	}
	if e, begun := modelLast(g, s, impl.EvCreate, 0); begun && e.Author == user {
		return 100
	}
	return 0
}

func modelSight(g impl.Graph, s []impl.Entry) int64 {
	if !modelIsStateOf(g, s) {
		return 0
	}
	if e, set := modelLast(g, s, impl.EvSight, 0); set {
		return e.N
	}
	return 2
}

func modelAllowed(g impl.Graph, s []impl.Entry, e impl.Event) int64 {
	if !modelIsStateOf(g, s) || !impl.EventRight(e) {
		return impl.ErrForm
	}
	created, begun := modelLast(g, s, impl.EvCreate, 0)
	if e.Kind == impl.EvCreate && begun {
		return impl.ErrThere
	}
	if e.Kind == impl.EvCreate {
		return impl.OK
	}
	if !begun {
		return impl.ErrState
	}
	if e.Kind == impl.EvHide && modelMember(g, s, e.Author) == impl.MbJoin && placeOf(g.Events, e.Key) < 0 {
		return impl.ErrNone
	}
	if e.Kind == impl.EvMember && e.Key == e.Author && modelOwnDenied(g, s, e, created) {
		return impl.ErrDenied
	}
	if !(e.Kind == impl.EvMember && e.Key == e.Author) && modelDenied(g, s, e) {
		return impl.ErrDenied
	}
	return impl.OK
}

func modelOwnDenied(g impl.Graph, s []impl.Entry, e impl.Event, created impl.Event) bool {
	m := modelMember(g, s, e.Author)
	in := m == impl.MbJoin || m == impl.MbAsked
	door, _ := modelLast(g, s, impl.EvDoor, 0)
	switch e.N {
	case impl.MbJoin:
		return m == impl.MbBan || !in && door.N != 1 && e.Author != created.Author
	case impl.MbLeave:
		return !in
	}
	return true
}

func modelDenied(g impl.Graph, s []impl.Entry, e impl.Event) bool {
	m, p := modelMember(g, s, e.Author), modelLevel(g, s, e.Author)
	t, q := modelMember(g, s, e.Key), modelLevel(g, s, e.Key)
	weak := p < 50
	switch {
	case m != impl.MbJoin:
		return true
	case e.Kind == impl.EvMember && e.N == impl.MbJoin:
		return true
	case e.Kind == impl.EvMember && e.N == impl.MbAsked:
		return t == impl.MbJoin || t == impl.MbBan
	case e.Kind == impl.EvMember && e.N == impl.MbLeave:
		return weak || p <= q || t == 0 || t == impl.MbLeave
	case e.Kind == impl.EvMember && e.N == impl.MbBan:
		return weak || p <= q || t == impl.MbBan
	case e.Kind == impl.EvPower:
		return weak || e.N > p || e.Key != e.Author && q >= p
	case e.Kind == impl.EvHide:
		return weak && g.Events[placeOf(g.Events, e.Key)].Author != e.Author
	}
	return weak && e.Kind != impl.EvSay
}

// cast is a room as a test wants it; what is 0 (of levels: what is not there) is not in its state.
type cast struct {
	creator int64
	members map[int64]int64
	levels  map[int64]int64
	door    int64
	sight   int64
	topic   bool
}

const (
	castCreated = 1
	castSays    = 10
	castNowhere = 999
	castParked  = 500
)

// graph has ahead of what the state names a saying of each user (castSays and the user), that no state names, and one that waits.
func (c cast) graph() (impl.Graph, []impl.Entry) {
	first := begins(castCreated)
	first.Author = max(1, c.creator)
	g := impl.Graph{Room: 1, Events: []impl.Event{first}, Parked: []impl.Event{says(castParked, castNowhere)}}
	for user := int64(1); user <= impl.MaxUsers; user++ {
		e := says(castSays+user, castCreated)
		e.Author = user
		g.Events = append(g.Events, e)
	}
	var s []impl.Entry
	if c.creator > 0 {
		s = append(s, impl.Entry{Kind: impl.EvCreate, Id: castCreated})
	}
	add := func(kind int64, key int64, n int64) {
		e := impl.Event{Id: int64(len(g.Events) + 20), Room: 1, Author: 1, Kind: kind, Key: key, N: n, Prev: []int64{castCreated}}
		g.Events = append(g.Events, e)
		s = append(s, impl.Entry{Kind: kind, Key: key, Id: e.Id})
	}
	for user := int64(1); user <= impl.MaxUsers; user++ {
		if n := c.members[user]; n > 0 {
			add(impl.EvMember, user, n)
		}
	}
	for user := int64(1); user <= impl.MaxUsers; user++ {
		if n, given := c.levels[user]; given {
			add(impl.EvPower, user, n)
		}
	}
	if c.topic {
		add(impl.EvTopic, 0, 0)
	}
	if c.door > 0 {
		add(impl.EvDoor, 0, c.door)
	}
	if c.sight > 0 {
		add(impl.EvSight, 0, c.sight)
	}
	return g, s
}

func does(author int64, kind int64, key int64, n int64) impl.Event {
	e := impl.Event{Id: 900, Room: 1, Author: author, Kind: kind, Key: key, N: n, Prev: []int64{castCreated}}
	if kind == impl.EvCreate {
		e.Prev = nil
	}
	if kind == impl.EvSay {
		e.Text = "said"
	}
	return e
}

// checkAllowed holds what is told against the model, and what was handed in against what it was.
func checkAllowed(t *testing.T, what string, g impl.Graph, s []impl.Entry, e impl.Event) int64 {
	t.Helper()
	handed, all := roomy(s)
	keptState, keptGraph, keptEvent := slices.Clone(all), twin(g), twinEvent(e)
	got := impl.Allowed(g, handed, e)
	if want := modelAllowed(g, s, e); got != want {
		t.Errorf("%s: %+v in %+v of %+v: got %d, want %d", what, e, s, g, got, want)
	}
	same(t, what+": the state handed in", all, keptState)
	same(t, what+": the graph handed in", twin(g), keptGraph)
	same(t, what+": the event handed in", twinEvent(e), keptEvent)
	return got
}

// checkStanding asks of each user that there is, and of those beside them.
func checkStanding(t *testing.T, what string, g impl.Graph, s []impl.Entry) {
	t.Helper()
	handed, all := roomy(s)
	keptState, keptGraph := slices.Clone(all), twin(g)
	for _, user := range []int64{math.MinInt64, -1, 0, 1, 2, 3, 4, 5, 6, 7, math.MaxInt64} {
		same(t, fmt.Sprint(what, ": member ", user), impl.MemberOf(g, handed, user), modelMember(g, s, user))
		same(t, fmt.Sprint(what, ": level ", user), impl.LevelOf(g, handed, user), modelLevel(g, s, user))
	}
	same(t, what+": sight", impl.SightOf(g, handed), modelSight(g, s))
	same(t, what+": the state handed in", all, keptState)
	same(t, what+": the graph handed in", twin(g), keptGraph)
}

// everyDeed is each Kind of event by one user, to each of two, with each N that may matter.
func everyDeed(author int64, to ...int64) []impl.Event {
	out := []impl.Event{does(author, impl.EvCreate, 0, 0), does(author, impl.EvTopic, 0, 0), does(author, impl.EvSay, 0, 0)}
	for n := int64(1); n <= 2; n++ {
		out = append(out, does(author, impl.EvDoor, 0, n))
	}
	for n := int64(1); n <= 3; n++ {
		out = append(out, does(author, impl.EvSight, 0, n))
	}
	for _, key := range to {
		for n := int64(impl.MbJoin); n <= impl.MbAsked; n++ {
			out = append(out, does(author, impl.EvMember, key, n))
		}
		for _, n := range []int64{0, 49, 50, 51, 100} {
			out = append(out, does(author, impl.EvPower, key, n))
		}
		out = append(out, does(author, impl.EvHide, castSays+key, 0))
	}
	return append(out, does(author, impl.EvHide, castNowhere, 0), does(author, impl.EvHide, castParked, 0), does(author, impl.EvHide, castCreated, 0))
}

// Promise 6: who is thrown out does not come in, whoever it is and whatever the door is.
func TestThrownOutDoesNotComeIn(t *testing.T) {
	for user := int64(1); user <= impl.MaxUsers; user++ {
		for door := int64(0); door <= 2; door++ {
			for _, level := range []int64{0, 49, 50, 100} {
				for creator := int64(1); creator <= impl.MaxUsers; creator++ {
					c := cast{creator: creator, door: door, members: map[int64]int64{user: impl.MbBan}, levels: map[int64]int64{user: level}}
					g, s := c.graph()
					same(t, "comes in", checkAllowed(t, "comes in", g, s, does(user, impl.EvMember, user, impl.MbJoin)), int64(impl.ErrDenied))
				}
			}
		}
	}
}

// Promise 6: who is not in says nothing, nor does anything else but come and go.
func TestNotInSaysNothing(t *testing.T) {
	for was := int64(0); was <= impl.MbAsked; was++ {
		for author := int64(1); author <= 2; author++ {
			c := cast{creator: 1, door: 1, members: map[int64]int64{author: was, 3: impl.MbJoin}, levels: map[int64]int64{2: 100}}
			g, s := c.graph()
			for _, e := range everyDeed(author, 3, 4) {
				want := int64(impl.ErrDenied)
				if e.Kind == impl.EvCreate {
					want = impl.ErrThere
				}
				got := checkAllowed(t, "not in", g, s, e)
				if was != impl.MbJoin {
					same(t, fmt.Sprintf("%+v by one who is %d", e, was), got, want)
				}
			}
			said := checkAllowed(t, "says", g, s, does(author, impl.EvSay, 0, 0))
			same(t, "says", said == impl.OK, was == impl.MbJoin)
		}
	}
}

// Promise 6: nobody gives more than one has, to others nor to oneself.
func TestNobodyGivesMoreThanOneHas(t *testing.T) {
	for level := int64(0); level <= 100; level++ {
		c := cast{creator: 1, members: map[int64]int64{2: impl.MbJoin, 3: impl.MbJoin}, levels: map[int64]int64{2: level}}
		g, s := c.graph()
		for given := int64(0); given <= 100; given++ {
			for key := int64(2); key <= 3; key++ {
				want := int64(impl.OK)
				if level < 50 || given > level {
					want = impl.ErrDenied
				}
				same(t, fmt.Sprintf("%d to %d by %d", given, key, level), impl.Allowed(g, s, does(2, impl.EvPower, key, given)), want)
			}
		}
	}
}

// codesOf asks of each N of an EvMember in turn.
func codesOf(t *testing.T, c cast, author int64, key int64) [4]int64 {
	t.Helper()
	g, s := c.graph()
	var out [4]int64
	for i := range out {
		out[i] = checkAllowed(t, "member", g, s, does(author, impl.EvMember, key, int64(i+1)))
	}
	return out
}

func TestOneComesAndGoes(t *testing.T) {
	const no = impl.ErrDenied
	rows := []struct {
		was, door, creator int64
		want               [4]int64
	}{
		{0, 0, 1, [4]int64{no, no, no, no}},
		{0, 1, 1, [4]int64{0, no, no, no}},
		{0, 2, 1, [4]int64{no, no, no, no}},
		{0, 0, 2, [4]int64{0, no, no, no}},
		{0, 2, 2, [4]int64{0, no, no, no}},
		{impl.MbJoin, 0, 1, [4]int64{0, 0, no, no}},
		{impl.MbJoin, 1, 1, [4]int64{0, 0, no, no}},
		{impl.MbJoin, 2, 2, [4]int64{0, 0, no, no}},
		{impl.MbLeave, 0, 1, [4]int64{no, no, no, no}},
		{impl.MbLeave, 1, 1, [4]int64{0, no, no, no}},
		{impl.MbLeave, 2, 1, [4]int64{no, no, no, no}},
		{impl.MbLeave, 2, 2, [4]int64{0, no, no, no}},
		{impl.MbBan, 0, 1, [4]int64{no, no, no, no}},
		{impl.MbBan, 1, 1, [4]int64{no, no, no, no}},
		{impl.MbBan, 1, 2, [4]int64{no, no, no, no}},
		{impl.MbAsked, 0, 1, [4]int64{0, 0, no, no}},
		{impl.MbAsked, 1, 1, [4]int64{0, 0, no, no}},
		{impl.MbAsked, 2, 1, [4]int64{0, 0, no, no}},
	}
	for _, r := range rows {
		c := cast{creator: r.creator, door: r.door, members: map[int64]int64{1: impl.MbJoin, 2: r.was}}
		same(t, fmt.Sprintf("%+v", r), codesOf(t, c, 2, 2), r.want)
		c.levels = map[int64]int64{2: 100}
		same(t, fmt.Sprintf("%+v with a level", r), codesOf(t, c, 2, 2), r.want)
	}
}

func TestOneDoesToAnother(t *testing.T) {
	const no = impl.ErrDenied
	rows := []struct {
		was, level, others int64
		want               [4]int64
	}{
		{0, 50, 49, [4]int64{no, no, 0, 0}},
		{impl.MbJoin, 50, 49, [4]int64{no, 0, 0, no}},
		{impl.MbLeave, 50, 49, [4]int64{no, no, 0, 0}},
		{impl.MbBan, 50, 49, [4]int64{no, 0, no, no}},
		{impl.MbAsked, 50, 49, [4]int64{no, 0, 0, 0}},
		{impl.MbJoin, 49, 0, [4]int64{no, no, no, no}},
		{impl.MbJoin, 50, 0, [4]int64{no, 0, 0, no}},
		{impl.MbJoin, 51, 0, [4]int64{no, 0, 0, no}},
		{impl.MbJoin, 50, 50, [4]int64{no, no, no, no}},
		{impl.MbJoin, 50, 51, [4]int64{no, no, no, no}},
		{impl.MbJoin, 51, 50, [4]int64{no, 0, 0, no}},
		{impl.MbJoin, 100, 99, [4]int64{no, 0, 0, no}},
		{impl.MbJoin, 100, 100, [4]int64{no, no, no, no}},
		{0, 0, 100, [4]int64{no, no, no, 0}},
		{impl.MbLeave, 0, 100, [4]int64{no, no, no, 0}},
		{impl.MbBan, 0, 100, [4]int64{no, no, no, no}},
		{impl.MbAsked, 0, 100, [4]int64{no, no, no, 0}},
	}
	for _, r := range rows {
		c := cast{creator: 1, members: map[int64]int64{2: impl.MbJoin, 3: r.was}, levels: map[int64]int64{2: r.level, 3: r.others}}
		same(t, fmt.Sprintf("%+v", r), codesOf(t, c, 2, 3), r.want)
	}
	c := cast{creator: 1, members: map[int64]int64{1: impl.MbJoin, 2: impl.MbJoin}}
	same(t, "the creator to one without a level", codesOf(t, c, 1, 2), [4]int64{no, 0, 0, no})
	same(t, "one without a level to the creator", codesOf(t, c, 2, 1), [4]int64{no, no, no, no})
	c.levels = map[int64]int64{2: 100}
	same(t, "one of 100 to the creator", codesOf(t, c, 2, 1), [4]int64{no, no, no, no})
	c.levels = map[int64]int64{1: 0, 2: 50}
	same(t, "one of 50 to the creator, who gave up all", codesOf(t, c, 2, 1), [4]int64{no, 0, 0, no})
}

// Each that one can be, each that another one can be, and each N, with all levels that stand beside a limit.
func TestEveryComingAndGoing(t *testing.T) {
	levels := []int64{0, 49, 50, 51, 100}
	for _, level := range levels {
		for _, others := range levels {
			for was := int64(0); was <= impl.MbAsked; was++ {
				for its := int64(0); its <= impl.MbAsked; its++ {
					c := cast{creator: 1, door: (was + its) % 3, members: map[int64]int64{2: was, 3: its}, levels: map[int64]int64{2: level, 3: others}}
					codesOf(t, c, 2, 3)
					codesOf(t, c, 2, 2)
				}
			}
		}
	}
}

func TestMightOfOnesOwn(t *testing.T) {
	for _, r := range []struct {
		what               string
		level, key, others int64
		given, want        int64
	}{
		{"of one's own level to another one", 60, 3, 0, 60, impl.OK},
		{"of one above one's own to another one", 60, 3, 0, 61, impl.ErrDenied},
		{"to one of the same level", 60, 3, 60, 10, impl.ErrDenied},
		{"to one of one level below", 60, 3, 59, 10, impl.OK},
		{"to one of one level above", 60, 3, 61, 10, impl.ErrDenied},
		{"to oneself, as it is", 60, 2, 0, 60, impl.OK},
		{"to oneself, less", 60, 2, 0, 0, impl.OK},
		{"to oneself, more", 60, 2, 0, 61, impl.ErrDenied},
		{"with a level of 49", 49, 3, 0, 0, impl.ErrDenied},
		{"with a level of 49 to oneself", 49, 2, 0, 0, impl.ErrDenied},
		{"with a level of 50", 50, 3, 49, 50, impl.OK},
		{"with a level of 51", 51, 3, 50, 51, impl.OK},
		{"with a level of 100", 100, 3, 99, 100, impl.OK},
		{"nothing to one who has nothing", 50, 3, 0, 0, impl.OK},
	} {
		c := cast{creator: 1, members: map[int64]int64{2: impl.MbJoin, 3: impl.MbBan}, levels: map[int64]int64{2: r.level, 3: r.others}}
		g, s := c.graph()
		same(t, r.what, checkAllowed(t, r.what, g, s, does(2, impl.EvPower, r.key, r.given)), r.want)
	}
	c := cast{creator: 1, members: map[int64]int64{1: impl.MbJoin, 2: impl.MbJoin}, levels: map[int64]int64{2: 99}}
	g, s := c.graph()
	same(t, "the creator gives all", checkAllowed(t, "gives", g, s, does(1, impl.EvPower, 2, 100)), int64(impl.OK))
	same(t, "the creator is not to be lowered", checkAllowed(t, "gives", g, s, does(2, impl.EvPower, 1, 0)), int64(impl.ErrDenied))
	same(t, "one who is nobody yet is given something", checkAllowed(t, "gives", g, s, does(1, impl.EvPower, 5, 7)), int64(impl.OK))
}

func TestLevelsToArrange(t *testing.T) {
	for _, level := range []int64{0, 1, 49, 50, 51, 99, 100} {
		c := cast{creator: 1, members: map[int64]int64{2: impl.MbJoin}, levels: map[int64]int64{2: level}}
		g, s := c.graph()
		want := int64(impl.OK)
		if level < 50 {
			want = impl.ErrDenied
		}
		deeds := []impl.Event{does(2, impl.EvTopic, 0, 0), does(2, impl.EvDoor, 0, 1), does(2, impl.EvDoor, 0, 2), does(2, impl.EvSight, 0, 1), does(2, impl.EvSight, 0, 3)}
		for _, e := range append(deeds, does(2, impl.EvHide, castSays+3, 0), does(2, impl.EvHide, castCreated, 0)) {
			same(t, fmt.Sprintf("%+v at %d", e, level), checkAllowed(t, "arranges", g, s, e), want)
		}
		same(t, "says", checkAllowed(t, "says", g, s, does(2, impl.EvSay, 0, 0)), int64(impl.OK))
		same(t, "hides its own", checkAllowed(t, "hides", g, s, does(2, impl.EvHide, castSays+2, 0)), int64(impl.OK))
		for _, id := range []int64{castNowhere, castParked, 900, impl.MaxTime} {
			same(t, "hides what is not there", checkAllowed(t, "hides", g, s, does(2, impl.EvHide, id, 0)), int64(impl.ErrNone))
			same(t, "one who is not in hides what is not there", checkAllowed(t, "hides", g, s, does(3, impl.EvHide, id, 0)), int64(impl.ErrDenied))
		}
	}
}

func TestCreatedOnce(t *testing.T) {
	for author := int64(1); author <= impl.MaxUsers; author++ {
		g, s := cast{creator: 1, members: map[int64]int64{1: impl.MbJoin}}.graph()
		same(t, "begun already", checkAllowed(t, "created", g, s, does(author, impl.EvCreate, 0, 0)), int64(impl.ErrThere))
		same(t, "another state of the same graph", checkAllowed(t, "created", g, s[1:], does(author, impl.EvCreate, 0, 0)), int64(impl.OK))
		same(t, "nothing at all", checkAllowed(t, "created", impl.Graph{Room: 1}, nil, does(author, impl.EvCreate, 0, 0)), int64(impl.OK))
		for _, e := range everyDeed(author, 1, 2) {
			if e.Kind == impl.EvCreate {
				continue
			}
			same(t, "not begun", checkAllowed(t, "not begun", g, s[1:], e), int64(impl.ErrState))
			same(t, "not begun, and no events", checkAllowed(t, "not begun", impl.Graph{Room: 1}, nil, e), int64(impl.ErrState))
		}
	}
}

// The first one comes into a new room, and all else comes of that.
func TestRoomFromItsBeginning(t *testing.T) {
	g, s := impl.Graph{Room: 2}, []impl.Entry(nil)
	for i, r := range []struct {
		e    impl.Event
		want int64
	}{
		{does(3, impl.EvSay, 0, 0), impl.ErrState},
		{does(3, impl.EvCreate, 0, 0), impl.OK},
		{does(3, impl.EvCreate, 0, 0), impl.ErrThere},
		{does(3, impl.EvSay, 0, 0), impl.ErrDenied},
		{does(3, impl.EvPower, 3, 100), impl.ErrDenied},
		{does(4, impl.EvMember, 4, impl.MbJoin), impl.ErrDenied},
		{does(3, impl.EvMember, 3, impl.MbJoin), impl.OK},
		{does(3, impl.EvSay, 0, 0), impl.OK},
		{does(3, impl.EvMember, 4, impl.MbJoin), impl.ErrDenied},
		{does(3, impl.EvMember, 4, impl.MbAsked), impl.OK},
		{does(4, impl.EvSay, 0, 0), impl.ErrDenied},
		{does(4, impl.EvMember, 4, impl.MbJoin), impl.OK},
		{does(4, impl.EvSay, 0, 0), impl.OK},
		{does(4, impl.EvDoor, 0, 1), impl.ErrDenied},
		{does(3, impl.EvPower, 4, 50), impl.OK},
		{does(4, impl.EvDoor, 0, 1), impl.OK},
		{does(5, impl.EvMember, 5, impl.MbJoin), impl.OK},
		{does(4, impl.EvMember, 5, impl.MbBan), impl.OK},
		{does(5, impl.EvMember, 5, impl.MbJoin), impl.ErrDenied},
		{does(5, impl.EvSay, 0, 0), impl.ErrDenied},
		{does(4, impl.EvMember, 5, impl.MbAsked), impl.ErrDenied},
		{does(4, impl.EvMember, 5, impl.MbLeave), impl.OK},
		{does(5, impl.EvMember, 5, impl.MbJoin), impl.OK},
		{does(3, impl.EvMember, 3, impl.MbLeave), impl.OK},
		{does(3, impl.EvTopic, 0, 0), impl.ErrDenied},
		{does(4, impl.EvDoor, 0, 2), impl.OK},
		{does(3, impl.EvMember, 3, impl.MbJoin), impl.OK},
	} {
		e := r.e
		e.Id, e.Room = int64(i+1), 2
		if e.Kind != impl.EvCreate {
			e.Prev = []int64{2}
		}
		same(t, fmt.Sprintf("step %d: %+v", i, e), checkAllowed(t, "step", g, s, e), r.want)
		if r.want == impl.OK {
			g, s = impl.GraphPut(g, e).Graph, behind(t, s, e)
		}
		checkStanding(t, fmt.Sprint("step ", i), g, s)
	}
}

// behind is the state with an event put, if that is a part of it.
func behind(t *testing.T, s []impl.Entry, e impl.Event) []impl.Entry {
	t.Helper()
	if !impl.IsState(e) {
		return s
	}
	out := impl.StatePut(s, impl.Entry{Kind: e.Kind, Key: e.Key, Id: e.Id})
	same(t, "put", out.Code, int64(impl.OK))
	return out.State
}

func TestStandingIsTold(t *testing.T) {
	c := cast{creator: 6, members: map[int64]int64{1: impl.MbBan, 2: impl.MbJoin, 3: impl.MbLeave, 6: impl.MbAsked}, levels: map[int64]int64{1: 0, 2: 100, 3: 49}, sight: 3}
	g, s := c.graph()
	checkStanding(t, "several", g, s)
	var members, levels []int64
	for user := int64(0); user <= impl.MaxUsers+1; user++ {
		members = append(members, impl.MemberOf(g, s, user))
		levels = append(levels, impl.LevelOf(g, s, user))
	}
	same(t, "members", members, []int64{0, 3, 1, 2, 0, 0, 4, 0})
	same(t, "levels", levels, []int64{0, 0, 100, 49, 0, 0, 100, 0})
	same(t, "sight", impl.SightOf(g, s), int64(3))
	for n := int64(1); n <= 3; n++ {
		g, s := cast{creator: 1, sight: n}.graph()
		same(t, "sight", impl.SightOf(g, s), n)
	}
	g, s = cast{creator: 1, levels: map[int64]int64{1: 0}}.graph()
	same(t, "a creator who has nothing any more", impl.LevelOf(g, s, 1), int64(0))
	same(t, "a state without EvSight", impl.SightOf(g, s), int64(2))
	same(t, "a state without EvMember", impl.MemberOf(g, s, 1), int64(0))
	same(t, "a state without EvPower", impl.LevelOf(g, s[:1], 1), int64(100))
	same(t, "a state without EvCreate", impl.LevelOf(g, nil, 1), int64(0))
	for _, user := range []int64{0, -1, impl.MaxUsers + 1} {
		same(t, "no user, and no EvCreate", impl.LevelOf(g, nil, user), int64(0))
		same(t, "no user, and nothing at all", impl.LevelOf(impl.Graph{Room: 1}, nil, user), int64(0))
	}
	same(t, "the sight of nothing", impl.SightOf(impl.Graph{Room: 3}, nil), int64(2))
}

// Drawn casts, and each deed in each of them.
func TestDrawnCasts(t *testing.T) {
	d := dice(6)
	codes := map[[2]int64]int{}
	for range 400 {
		c := cast{creator: int64(d.below(4)), door: int64(d.below(3)), sight: int64(d.below(4)), topic: d.below(2) == 0, members: map[int64]int64{}, levels: map[int64]int64{}}
		for user := int64(1); user <= impl.MaxUsers; user++ {
			c.members[user] = []int64{0, 1, 1, 1, 2, 3, 4}[d.below(7)]
			if d.below(3) > 0 {
				c.levels[user] = []int64{0, 48, 49, 50, 51, 52, 99, 100}[d.below(8)]
			}
		}
		g, s := c.graph()
		checkStanding(t, "drawn", g, s)
		author := int64(1 + d.below(impl.MaxUsers))
		for _, e := range everyDeed(author, author, int64(1+d.below(impl.MaxUsers))) {
			codes[[2]int64{e.Kind, checkAllowed(t, "drawn", g, s, e)}]++
		}
	}
	for kind := int64(impl.EvMember); kind <= impl.EvHide; kind++ {
		for _, code := range []int64{impl.OK, impl.ErrState, impl.ErrDenied} {
			if codes[[2]int64{kind, code}] < 10 {
				t.Errorf("the Kind %d told %d too seldom: %v", kind, code, codes)
			}
		}
	}
	for _, seldom := range [][2]int64{{impl.EvCreate, impl.OK}, {impl.EvCreate, impl.ErrThere}, {impl.EvHide, impl.ErrNone}} {
		if codes[seldom] < 10 {
			t.Errorf("too seldom: %v", seldom)
		}
	}
}

// drawnDeed is a right event of any Kind; who comes and goes is drawn more often than all else.
func drawnDeed(d *dice, id int64, prev int64) impl.Event {
	user := func() int64 { return int64(1 + d.below(4)) }
	author := user()
	e := does(author, impl.EvSay, 0, 0)
	switch d.below(12) {
	case 0:
		e = does(author, impl.EvPower, user(), []int64{0, 49, 50, 51, 60, 99, 100}[d.below(7)])
	case 1:
		e = does(author, impl.EvDoor, 0, int64(1+d.below(2)))
	case 2:
		e = does(author, impl.EvSight, 0, int64(1+d.below(3)))
	case 3:
		e = does(author, impl.EvTopic, 0, 0)
	case 4:
		e = does(author, impl.EvHide, int64(1+d.below(40)), 0)
	case 5, 6:
		e = does(author, impl.EvMember, author, int64(1+d.below(2)))
	case 7, 8, 9:
		e = does(author, impl.EvMember, user(), int64(1+d.below(4)))
	}
	e.Id, e.Prev = id, []int64{prev}
	return e
}

// Promise 6, in rooms that are drawn: only what is allowed comes in, and each step is one that the promise lets be.
func TestDrawnRooms(t *testing.T) {
	d := dice(66)
	came, steps := 0, map[[2]int64]int{}
	for range 60 {
		g, s := impl.Graph{Room: 1, Events: []impl.Event{begins(1)}}, []impl.Entry{{Kind: impl.EvCreate, Id: 1}}
		earlier := [][]impl.Entry{nil, s}
		is, has := [5]int64{}, [5]int64{0, 100}
		for id := int64(2); len(g.Events) < 40 && id < 200; id++ {
			e := drawnDeed(&d, id, g.Events[len(g.Events)-1].Id)
			checkAllowed(t, "an earlier state", g, earlier[d.below(len(earlier))], e)
			if checkAllowed(t, "drawn", g, s, e) != impl.OK {
				continue
			}
			if e.Kind == impl.EvMember {
				steps[[2]int64{is[e.Key], e.N}]++
			}
			checkStep(t, e, is, has)
			switch e.Kind {
			case impl.EvMember:
				is[e.Key] = e.N
			case impl.EvPower:
				has[e.Key] = e.N
			}
			g, s = impl.GraphPut(g, e).Graph, behind(t, s, e)
			earlier = append(earlier, s)
			came++
			for user := int64(1); user < 5; user++ {
				same(t, "member", impl.MemberOf(g, s, user), is[user])
				same(t, "level", impl.LevelOf(g, s, user), has[user])
			}
		}
		checkStanding(t, "drawn", g, s)
	}
	for _, step := range [][2]int64{{0, 1}, {0, 3}, {0, 4}, {1, 2}, {1, 3}, {2, 1}, {2, 3}, {2, 4}, {3, 2}, {4, 1}, {4, 2}, {4, 3}} {
		if steps[step] == 0 {
			t.Errorf("nobody went from %d to %d: %v", step[0], step[1], steps)
		}
	}
	if came < 1000 {
		t.Errorf("too few: %d", came)
	}
}

// checkStep checks an event that was allowed against what each is and has, as a test keeps it.
func checkStep(t *testing.T, e impl.Event, is [5]int64, has [5]int64) {
	t.Helper()
	itself := e.Kind == impl.EvMember && e.Key == e.Author
	if !itself && is[e.Author] != impl.MbJoin {
		t.Errorf("%+v by one who is not in: %v", e, is)
	}
	if e.Kind == impl.EvMember && e.N == impl.MbJoin && (is[e.Key] == impl.MbBan || !itself) {
		t.Errorf("%+v lets in one who is thrown out, or who did not come: %v", e, is)
	}
	if e.Kind == impl.EvPower && e.N > has[e.Author] {
		t.Errorf("%+v gives more than %v", e, has)
	}
}

// checkNoScene checks that each call refuses a graph with a state, whatever is asked of it.
func checkNoScene(t *testing.T, what string, g impl.Graph, s []impl.Entry) {
	t.Helper()
	same(t, what+": model", modelIsStateOf(g, s), false)
	checkStanding(t, what, g, s)
	for user := int64(0); user <= impl.MaxUsers+1; user++ {
		same(t, what+": member", impl.MemberOf(g, s, user), int64(0))
		same(t, what+": level", impl.LevelOf(g, s, user), int64(0))
	}
	same(t, what+": sight", impl.SightOf(g, s), int64(0))
	for _, e := range append(everyDeed(1, 1, 2), impl.Event{}) {
		same(t, what+": allowed", checkAllowed(t, what, g, s, e), int64(impl.ErrForm))
	}
}

func wholeCast() (impl.Graph, []impl.Entry) {
	return cast{creator: 1, members: map[int64]int64{1: impl.MbJoin, 2: impl.MbJoin}, levels: map[int64]int64{1: 90, 2: 60}, topic: true, door: 1, sight: 3}.graph()
}

func TestRulesOfWrongGraphs(t *testing.T) {
	g, s := wholeCast()
	checkStanding(t, "right", g, s)
	same(t, "right", impl.Allowed(g, s, does(1, impl.EvSay, 0, 0)), int64(impl.OK))
	for _, change := range []func(g *impl.Graph){
		func(g *impl.Graph) { g.Room = 0 },
		func(g *impl.Graph) { g.Room = 2 },
		func(g *impl.Graph) { g.Events[0].Author = 7 },
		func(g *impl.Graph) { g.Events[1], g.Events[2] = g.Events[2], g.Events[1] },
		func(g *impl.Graph) { g.Events[3].Prev = []int64{castNowhere} },
		func(g *impl.Graph) { g.Events[1].Prev, g.Events[2].Prev = []int64{12}, []int64{11} },
		func(g *impl.Graph) { g.Parked[0].Prev = []int64{castCreated} },
		func(g *impl.Graph) { g.Parked = append(g.Parked, g.Parked[0]) },
	} {
		wrong := twin(g)
		change(&wrong)
		checkNoScene(t, "a graph that is not right", wrong, s)
		checkNoScene(t, "a graph that is not right, and no state", wrong, nil)
	}
	checkNoScene(t, "no graph", impl.Graph{}, nil)
	checkNoScene(t, "too many Events", star(61, 0), []impl.Entry{{Kind: impl.EvCreate, Id: 1}})
}

func TestRulesOfWrongStates(t *testing.T) {
	g, s := wholeCast()
	topic, _ := modelLast(g, s, impl.EvTopic, 0)
	second := begins(3)
	g.Events = slices.Insert(g.Events, 1, second)
	checkStanding(t, "right", g, s)
	for i, x := range s {
		for _, wrong := range []impl.Entry{
			{Kind: x.Kind, Key: x.Key, Id: castNowhere}, {Kind: x.Kind, Key: x.Key, Id: castParked}, {Kind: x.Kind, Key: x.Key, Id: 0}, {Kind: x.Kind, Key: x.Key, Id: -1},
			{Kind: x.Kind, Key: x.Key, Id: impl.MaxTime + 1}, {Kind: x.Kind, Key: x.Key, Id: castSays + 1},
			{Kind: x.Kind, Key: impl.MaxUsers, Id: x.Id}, {Kind: x.Kind, Key: impl.MaxUsers + 1, Id: x.Id}, {Kind: 0, Key: x.Key, Id: x.Id}, {Kind: impl.EvSay, Key: 0, Id: castSays + 1},
		} {
			changed := slices.Clone(s)
			changed[i] = wrong
			checkNoScene(t, "changed", g, changed)
		}
		for j, y := range s {
			if i == j {
				continue
			}
			changed := slices.Clone(s)
			changed[i].Id = y.Id
			checkNoScene(t, "the Id of one of another Kind or Key", g, changed)
			swapped := slices.Clone(s)
			swapped[i], swapped[j] = y, x
			checkNoScene(t, "does not rise", g, swapped)
		}
		checkNoScene(t, "twice", g, slices.Insert(slices.Clone(s), i, x))
		left := slices.Delete(slices.Clone(s), i, i+1)
		checkStanding(t, "one less", g, left)
		for _, e := range everyDeed(1, 1, 2) {
			checkAllowed(t, "one less", g, left, e)
		}
	}
	checkNoScene(t, "two EvCreate", g, append([]impl.Entry{{Kind: impl.EvCreate, Id: castCreated}, {Kind: impl.EvCreate, Key: 1, Id: second.Id}}, s[1:]...))
	checkNoScene(t, "a Key that is not the event's", g, []impl.Entry{{Kind: impl.EvCreate, Id: castCreated}, {Kind: impl.EvTopic, Key: 1, Id: topic.Id}})
	other := slices.Clone(s)
	other[0].Id = second.Id
	checkStanding(t, "the other EvCreate", g, other)
}

// The event that waits would fit, if it were there.
func TestRulesOfParkedOnes(t *testing.T) {
	g, s := cast{creator: 1}.graph()
	waits := does(1, impl.EvMember, 1, impl.MbJoin)
	waits.Id, waits.Prev = 600, []int64{castNowhere}
	g.Parked = append(g.Parked, waits)
	checkNoScene(t, "one that waits", g, append(slices.Clone(s), impl.Entry{Kind: impl.EvMember, Key: 1, Id: 600}))
	missing := says(castNowhere, castCreated)
	there := impl.GraphPut(g, missing)
	same(t, "it comes in", there.Added, []int64{castNowhere, castParked, 600})
	came := append(slices.Clone(s), impl.Entry{Kind: impl.EvMember, Key: 1, Id: 600})
	same(t, "one that has come", checkAllowed(t, "come", there.Graph, came, does(1, impl.EvSay, 0, 0)), int64(impl.OK))
}

func TestRulesOfStatesTooLong(t *testing.T) {
	g, s := wholeCast()
	for _, many := range []int{impl.MaxList, impl.MaxList + 1, 3 * impl.MaxList} {
		checkNoScene(t, "too long", g, slices.Repeat(s, 3*impl.MaxList/len(s)+1)[:many])
		checkNoScene(t, "too long, of nothing", g, make([]impl.Entry, many))
	}
}

func TestRulesOfWrongEvents(t *testing.T) {
	g, s := wholeCast()
	say := does(1, impl.EvSay, 0, 0)
	same(t, "right", checkAllowed(t, "right", g, s, say), int64(impl.OK))
	for _, change := range []func(e *impl.Event){
		func(e *impl.Event) { *e = impl.Event{} },
		func(e *impl.Event) { e.Id = 0 },
		func(e *impl.Event) { e.Id = impl.MaxTime + 1 },
		func(e *impl.Event) { e.Room = 4 },
		func(e *impl.Event) { e.Author = 0 },
		func(e *impl.Event) { e.Author = impl.MaxUsers + 1 },
		func(e *impl.Event) { e.Kind = 0 },
		func(e *impl.Event) { e.Kind = -1 },
		func(e *impl.Event) { e.Kind = impl.EvHide + 1 },
		func(e *impl.Event) { e.Kind = math.MaxInt64 },
		func(e *impl.Event) { e.Kind = math.MinInt64 },
		func(e *impl.Event) { e.Kind = impl.EvCreate },
		func(e *impl.Event) { e.Text = "" },
		func(e *impl.Event) { e.Text = letters(impl.MaxText + 1) },
		func(e *impl.Event) { e.Prev = nil },
		func(e *impl.Event) { e.Prev = []int64{e.Id} },
		func(e *impl.Event) { e.Time = -1 },
		func(e *impl.Event) { *e = does(1, impl.EvMember, 0, impl.MbJoin) },
		func(e *impl.Event) { *e = does(1, impl.EvMember, impl.MaxUsers+1, impl.MbAsked) },
		func(e *impl.Event) { *e = does(1, impl.EvMember, 1, 0) },
		func(e *impl.Event) { *e = does(1, impl.EvMember, 1, impl.MbAsked+1) },
		func(e *impl.Event) { *e = does(1, impl.EvPower, 1, 101) },
		func(e *impl.Event) { *e = does(1, impl.EvPower, 1, -1) },
		func(e *impl.Event) { *e = does(1, impl.EvDoor, 0, 3) },
		func(e *impl.Event) { *e = does(1, impl.EvSight, 0, 0) },
		func(e *impl.Event) { *e = does(1, impl.EvHide, 0, 0) },
	} {
		e := twinEvent(say)
		change(&e)
		same(t, fmt.Sprintf("%+v", e), checkAllowed(t, "wrong", g, s, e), int64(impl.ErrForm))
		same(t, fmt.Sprintf("%+v ahead of all", e), checkAllowed(t, "wrong", g, nil, e), int64(impl.ErrForm))
	}
}

// What the document does not ask: that the event is of the graph's Room, is not there yet, or stands behind what is there.
func TestWhatIsNotAsked(t *testing.T) {
	g, s := wholeCast()
	for _, change := range []func(e *impl.Event){
		func(e *impl.Event) { e.Room = 3 },
		func(e *impl.Event) { e.Id = castSays + 1 },
		func(e *impl.Event) { e.Id = castParked },
		func(e *impl.Event) { e.Prev = []int64{castNowhere} },
		func(e *impl.Event) { e.Time = impl.MaxTime },
	} {
		e := does(1, impl.EvSay, 0, 0)
		change(&e)
		same(t, fmt.Sprintf("%+v", e), checkAllowed(t, "not asked", g, s, e), int64(impl.OK))
	}
}

// What is handed in is read anew by each call.
func TestRulesKeepNothing(t *testing.T) {
	g, s := cast{creator: 1, members: map[int64]int64{1: impl.MbJoin, 2: impl.MbJoin}, levels: map[int64]int64{2: 60}, sight: 1}.graph()
	e := does(2, impl.EvTopic, 0, 0)
	told := func() []int64 {
		return []int64{impl.MemberOf(g, s, 2), impl.LevelOf(g, s, 2), impl.SightOf(g, s), impl.Allowed(g, s, e)}
	}
	same(t, "at first", told(), []int64{impl.MbJoin, 60, 1, impl.OK})
	same(t, "again", told(), []int64{impl.MbJoin, 60, 1, impl.OK})
	at := func(kind int64, key int64) *impl.Event {
		return &g.Events[placeOf(g.Events, s[slotPlace(s, kind, key)].Id)]
	}
	at(impl.EvPower, 2).N = 49
	same(t, "another level", told(), []int64{impl.MbJoin, 49, 1, impl.ErrDenied})
	at(impl.EvSight, 0).N = 3
	at(impl.EvMember, 2).N = impl.MbBan
	same(t, "thrown out", told(), []int64{impl.MbBan, 49, 3, impl.ErrDenied})
	e.Kind, e.Text = impl.EvSay, ""
	same(t, "not right", told(), []int64{impl.MbBan, 49, 3, impl.ErrForm})
	s[0].Id = castNowhere
	same(t, "no state", told(), []int64{0, 0, 0, impl.ErrForm})
}
