package tests

import (
	"fmt"
	"math"
	"reflect"
	"slices"
	"testing"

	"loop.example/g00683/impl"
)

func begins(id int64) impl.Event {
	return impl.Event{Id: id, Room: 1, Author: 1, Kind: impl.EvCreate}
}

func says(id int64, prev ...int64) impl.Event {
	return impl.Event{Id: id, Room: 1, Author: 1, Kind: impl.EvSay, Text: fmt.Sprintf("this is number %d", id), Prev: prev}
}

func eventsById(l []impl.Event) []impl.Event {
	out := slices.Clone(l)
	slices.SortFunc(out, func(a, b impl.Event) int { return int(a.Id - b.Id) })
	return out
}

func graphOf(events []impl.Event, parked []impl.Event) impl.Graph {
	return impl.Graph{Room: 1, Events: eventsById(events), Parked: eventsById(parked)}
}

func idsOf(l []impl.Event) []int64 {
	var out []int64
	for _, e := range l {
		out = append(out, e.Id)
	}
	return out
}

// twin is the same graph in memory of its own.
func twin(g impl.Graph) impl.Graph {
	return impl.Graph{Room: g.Room, Events: twinRow(g.Events), Parked: twinRow(g.Parked)}
}

func twinRow(l []impl.Event) []impl.Event {
	var out []impl.Event
	for _, e := range l {
		out = append(out, twinEvent(e))
	}
	return out
}

func twinEvent(e impl.Event) impl.Event {
	e.Prev = append([]int64(nil), e.Prev...)
	return e
}

// A model of the chapter, without maps and without any thought of speed.

func placeOf(l []impl.Event, id int64) int {
	return slices.IndexFunc(l, func(e impl.Event) bool { return e.Id == id })
}

func allIn(l []impl.Event, ids []int64) bool {
	return !slices.ContainsFunc(ids, func(id int64) bool { return placeOf(l, id) < 0 })
}

// modelAhead widens what is ahead step by step, till it grows no more.
func modelAhead(l []impl.Event, id int64) []int64 {
	if placeOf(l, id) < 0 {
		return nil
	}
	out := slices.Clone(l[placeOf(l, id)].Prev)
	for i := 0; i < len(out); i++ {
		if placeOf(l, out[i]) < 0 {
			continue
		}
		for _, p := range l[placeOf(l, out[i])].Prev {
			if !slices.Contains(out, p) {
				out = append(out, p)
			}
		}
	}
	return out
}

func modelRowRight(room int64, l []impl.Event, most int) bool {
	if len(l) > most {
		return false
	}
	for i, e := range l {
		if !impl.EventRight(e) || e.Room != room || i > 0 && e.Id <= l[i-1].Id {
			return false
		}
	}
	return true
}

func modelRight(g impl.Graph) bool {
	if g.Room < 1 || g.Room > 3 || !modelRowRight(g.Room, g.Events, 60) || !modelRowRight(g.Room, g.Parked, 20) {
		return false
	}
	for _, e := range g.Events {
		if !allIn(g.Events, e.Prev) || placeOf(g.Parked, e.Id) >= 0 || slices.Contains(modelAhead(g.Events, e.Id), e.Id) {
			return false
		}
	}
	for _, e := range g.Parked {
		if allIn(g.Events, e.Prev) {
			return false
		}
	}
	return true
}

func modelPut(g impl.Graph, e impl.Event) impl.GraphOut {
	if !modelRight(g) || !impl.EventRight(e) || e.Room != g.Room {
		return impl.GraphOut{Code: impl.ErrForm}
	}
	if placeOf(g.Events, e.Id) >= 0 || placeOf(g.Parked, e.Id) >= 0 {
		return impl.GraphOut{Code: impl.ErrThere}
	}
	waits := !allIn(g.Events, e.Prev)
	if len(g.Events) == 60 || waits && len(g.Parked) == 20 {
		return impl.GraphOut{Code: impl.ErrFull}
	}
	g = twin(g)
	g.Parked = eventsById(append(g.Parked, twinEvent(e)))
	var added []int64
	for {
		i := slices.IndexFunc(g.Parked, func(e impl.Event) bool { return allIn(g.Events, e.Prev) })
		if i < 0 {
			break
		}
		if len(g.Events) < 60 {
			added = append(added, g.Parked[i].Id)
			g.Events = eventsById(append(g.Events, g.Parked[i]))
		}
		g.Parked = slices.Delete(g.Parked, i, i+1)
	}
	if len(g.Parked) == 0 {
		g.Parked = nil
	}
	return impl.GraphOut{Graph: g, Added: added}
}

func modelDepth(g impl.Graph, id int64) int64 {
	i := placeOf(g.Events, id)
	if i < 0 {
		return 0
	}
	deepest := int64(0)
	for _, p := range g.Events[i].Prev {
		deepest = max(deepest, modelDepth(g, p))
	}
	return deepest + 1
}

func modelMissing(g impl.Graph) []int64 {
	var out []int64
	for _, e := range g.Parked {
		for _, p := range e.Prev {
			if placeOf(g.Events, p) < 0 && placeOf(g.Parked, p) < 0 && !slices.Contains(out, p) {
				out = append(out, p)
			}
		}
	}
	slices.Sort(out)
	return out
}

// checkAsked holds all that a right graph is asked against the model; its events must not stand too deep for it.
func checkAsked(t *testing.T, what string, g impl.Graph) {
	t.Helper()
	same(t, what+": right", impl.GraphRight(g), true)
	var ids []int64
	for _, e := range g.Events {
		ids = append(ids, e.Id)
		same(t, what+": event", impl.EventAt(g, e.Id), e)
	}
	for _, id := range append(slices.Clone(ids), append(idsOf(g.Parked), 0, -1, 999, math.MaxInt64, math.MinInt64)...) {
		same(t, what+": depth", impl.DepthOf(g, id), modelDepth(g, id))
		ahead := modelAhead(g.Events, id)
		for _, other := range append(slices.Clone(ids), append(idsOf(g.Parked), 0, 999)...) {
			same(t, what+": ahead", impl.AheadOf(g, other, id), slices.Contains(ahead, other))
		}
		if placeOf(g.Events, id) < 0 {
			same(t, what+": no event", impl.EventAt(g, id), impl.Event{})
		}
	}
	slices.SortStableFunc(ids, func(a, b int64) int { return int(modelDepth(g, a) - modelDepth(g, b)) })
	same(t, what+": sorted", impl.SortOf(g), ids)
	same(t, what+": missing", impl.MissingOf(g), modelMissing(g))
}

// checkPut puts an event, and holds what comes of it against the model.
func checkPut(t *testing.T, what string, g impl.Graph, e impl.Event) impl.GraphOut {
	t.Helper()
	handed, kept, keptEvent := twin(g), twin(g), twinEvent(e)
	got := impl.GraphPut(handed, e)
	same(t, what, got, modelPut(g, e))
	same(t, what+": what was handed in", handed, kept)
	same(t, what+": the event handed in", e, keptEvent)
	if got.Code == impl.OK {
		same(t, what+": stays right", impl.GraphRight(got.Graph), true)
		isNewMemory(t, what, got, handed, e)
	}
	return got
}

// checkWrongGraph checks that a graph is refused by each call.
func checkWrongGraph(t *testing.T, what string, g impl.Graph) {
	t.Helper()
	same(t, what+": right", impl.GraphRight(g), false)
	for _, e := range []impl.Event{begins(900), says(901, 900), {}} {
		e.Room = g.Room
		same(t, what+": put", impl.GraphPut(g, e), impl.GraphOut{Code: impl.ErrForm})
	}
	for _, e := range append(slices.Clone(g.Events), g.Parked...) {
		same(t, what+": event", impl.EventAt(g, e.Id), impl.Event{})
		same(t, what+": depth", impl.DepthOf(g, e.Id), int64(0))
		same(t, what+": put again", impl.GraphPut(g, e), impl.GraphOut{Code: impl.ErrForm})
		for _, p := range e.Prev {
			same(t, what+": ahead", impl.AheadOf(g, p, e.Id), false)
		}
	}
	same(t, what+": sorted", len(impl.SortOf(g)), 0)
	same(t, what+": missing", len(impl.MissingOf(g)), 0)
}

// meeting parts into three ways, and meets again twice; its Ids do not rise along the ways.
func meeting() []impl.Event {
	return []impl.Event{begins(4), says(9, 4), says(2, 4), says(7, 9), says(1, 2, 7, 9), says(3, 1, 4), says(8, 2, 3)}
}

func orders(l []impl.Event, tell func(l []impl.Event)) {
	var turn func(at int)
	turn = func(at int) {
		if at == len(l) {
			tell(l)
			return
		}
		for i := at; i < len(l); i++ {
			l[at], l[i] = l[i], l[at]
			turn(at + 1)
			l[at], l[i] = l[i], l[at]
		}
	}
	turn(0)
}

// Promise 4: whatever the order in which events come, and however often, a graph is what it is in any other order.
func TestGraphInEveryOrder(t *testing.T) {
	want := graphOf(meeting(), nil)
	count := 0
	orders(meeting(), func(l []impl.Event) {
		count++
		g := impl.Graph{Room: 1}
		var came []int64
		for i, e := range l {
			got := impl.GraphPut(g, e)
			if got.Code != impl.OK {
				t.Fatalf("put of %d in the order %v: got %+v", e.Id, idsOf(l), got)
			}
			g = got.Graph
			came = append(came, got.Added...)
			for _, old := range l[:i+1] {
				if again := impl.GraphPut(g, old); !reflect.DeepEqual(again, impl.GraphOut{Code: impl.ErrThere}) {
					t.Fatalf("put of %d again in the order %v: got %+v", old.Id, idsOf(l), again)
				}
			}
		}
		slices.Sort(came)
		if !reflect.DeepEqual(g, want) || !slices.Equal(came, idsOf(want.Events)) {
			t.Fatalf("in the order %v: got %+v", idsOf(l), g)
		}
	})
	same(t, "orders", count, 5040)
	checkAsked(t, "meeting", want)
	same(t, "sorted", impl.SortOf(want), []int64{4, 2, 9, 7, 1, 3, 8})
}

func TestGraphStepByStep(t *testing.T) {
	orders(meeting()[:5], func(l []impl.Event) {
		g := impl.Graph{Room: 1}
		for _, e := range l {
			g = checkPut(t, "put", g, e).Graph
			checkAsked(t, "asked", g)
		}
	})
}

// Promise 4: what is sorted stands behind all behind which it is.
func TestSortedBehindAll(t *testing.T) {
	d := dice(4)
	for range 20 {
		g := impl.Graph{Room: 1, Events: someEvents(&d, 60)}
		same(t, "right", impl.GraphRight(g), true)
		sorted := impl.SortOf(g)
		same(t, "all of them", len(sorted), 60)
		for i, id := range sorted {
			if i > 0 && (impl.DepthOf(g, id) < impl.DepthOf(g, sorted[i-1]) || impl.DepthOf(g, id) == impl.DepthOf(g, sorted[i-1]) && id <= sorted[i-1]) {
				t.Fatalf("%d stands behind %d", id, sorted[i-1])
			}
			for _, later := range sorted[i:] {
				if impl.AheadOf(g, later, id) {
					t.Fatalf("%d is sorted ahead of %d", id, later)
				}
			}
		}
	}
}

// someEvents are so many of mixed Ids, each but the first behind some of those ahead of it, rising by Id.
func someEvents(d *dice, many int) []impl.Event {
	ids := firstIds(many)
	d.mix(many, func(i, j int) { ids[i], ids[j] = ids[j], ids[i] })
	out := []impl.Event{begins(ids[0])}
	for i := 1; i < many; i++ {
		var prev []int64
		for range 1 + d.below(4) {
			prev = append(prev, ids[max(0, i-1-d.below(6))])
		}
		slices.Sort(prev)
		out = append(out, says(ids[i], slices.Compact(prev)...))
	}
	return eventsById(out)
}

// Promise 4, with many events, and some of them more than once.
func TestManyEventsInManyOrders(t *testing.T) {
	d := dice(7)
	for range 30 {
		want := impl.Graph{Room: 1, Events: someEvents(&d, 20)}
		row := twinRow(want.Events)
		for range 10 {
			row = append(row, want.Events[d.below(20)])
		}
		for range 5 {
			d.mix(len(row), func(i, j int) { row[i], row[j] = row[j], row[i] })
			g := impl.Graph{Room: 1}
			for _, e := range row {
				if got := checkPut(t, "put", g, e); got.Code == impl.OK {
					g = got.Graph
				} else {
					same(t, "again", got.Code, int64(impl.ErrThere))
				}
			}
			same(t, "graph", g, want)
		}
	}
}

func TestWaitingComeInOneAfterAnother(t *testing.T) {
	g := graphOf([]impl.Event{begins(50)}, []impl.Event{says(40, 30), says(30, 20), says(35, 20), says(10, 35, 40), says(5, 60), says(60, 10), says(70, 20, 80), says(71, 70)})
	checkAsked(t, "waiting", g)
	same(t, "missing", impl.MissingOf(g), []int64{20, 80})
	got := checkPut(t, "put", g, says(20, 50))
	same(t, "added, the least first", got.Added, []int64{20, 30, 35, 40, 10, 60, 5})
	same(t, "waiting still", idsOf(got.Graph.Parked), []int64{70, 71})
	same(t, "missing still", impl.MissingOf(got.Graph), []int64{80})
	checkAsked(t, "come in", got.Graph)
	got = checkPut(t, "put", got.Graph, says(80, 5))
	same(t, "the rest", got.Added, []int64{80, 70, 71})
	same(t, "depth", []int64{impl.DepthOf(got.Graph, 50), impl.DepthOf(got.Graph, 35), impl.DepthOf(got.Graph, 10), impl.DepthOf(got.Graph, 71)}, []int64{1, 3, 5, 10})
	checkAsked(t, "all", got.Graph)
}

func TestAllOfSeveralPrevAreAwaited(t *testing.T) {
	g := impl.Graph{Room: 1}
	for _, e := range []impl.Event{says(9, 1, 2, 3, 4), says(2, 1), says(4, 1, 3)} {
		got := checkPut(t, "parked", g, e)
		same(t, "none added", got.Added, []int64(nil))
		g = got.Graph
	}
	same(t, "missing, each once", impl.MissingOf(g), []int64{1, 3})
	got := checkPut(t, "the first", g, begins(1))
	same(t, "what waited for it alone", got.Added, []int64{1, 2})
	got = checkPut(t, "the last", got.Graph, says(3, 2))
	same(t, "the rest", got.Added, []int64{3, 4, 9})
	checkAsked(t, "all", got.Graph)
}

func TestSeveralBeginnings(t *testing.T) {
	g := impl.Graph{Room: 1}
	for _, e := range []impl.Event{begins(5), begins(3), says(4, 3, 5), says(1, 5)} {
		g = checkPut(t, "put", g, e).Graph
	}
	checkAsked(t, "two beginnings", g)
	same(t, "sorted", impl.SortOf(g), []int64{3, 5, 1, 4})
	same(t, "unlike ways", impl.AheadOf(g, 3, 1), false)
}

func TestEmptyGraphs(t *testing.T) {
	for room := int64(1); room <= 3; room++ {
		for _, g := range []impl.Graph{{Room: room}, {Room: room, Events: []impl.Event{}, Parked: []impl.Event{}}} {
			same(t, "right", impl.GraphRight(g), true)
			same(t, "sorted", len(impl.SortOf(g)), 0)
			same(t, "missing", len(impl.MissingOf(g)), 0)
			same(t, "depth", impl.DepthOf(g, 0), int64(0))
			same(t, "ahead", impl.AheadOf(g, 0, 0), false)
			same(t, "event", impl.EventAt(g, 0), impl.Event{})
			e := begins(impl.MaxTime)
			e.Room = room
			same(t, "put", impl.GraphPut(g, e), impl.GraphOut{Graph: impl.Graph{Room: room, Events: []impl.Event{e}}, Added: []int64{impl.MaxTime}})
		}
	}
	for _, room := range []int64{math.MinInt64, -1, 0, 4, math.MaxInt64} {
		checkWrongGraph(t, "no such room", impl.Graph{Room: room})
	}
}

// star has so many events, all behind the first one; further ones may wait for number 900.
func star(many int, parked int) impl.Graph {
	g := impl.Graph{Room: 1, Events: []impl.Event{begins(1)}}
	for i := 1; i < many; i++ {
		g.Events = append(g.Events, says(int64(i+1), 1))
	}
	for i := range parked {
		g.Parked = append(g.Parked, says(int64(101+i), 900))
	}
	return g
}

func TestMaxEvents(t *testing.T) {
	same(t, "limits", []int{impl.MaxEvents, impl.MaxParked}, []int{60, 20})
	g := checkPut(t, "the last that fits", star(59, 3), says(60, 59)).Graph
	same(t, "many", []int{len(g.Events), len(g.Parked)}, []int{60, 3})
	checkAsked(t, "full", g)
	full := impl.GraphOut{Code: impl.ErrFull}
	same(t, "one more", checkPut(t, "one more", g, says(61, 1)), full)
	same(t, "one more that would wait", checkPut(t, "one more that would wait", g, says(61, 900)), full)
	same(t, "one more beginning", checkPut(t, "one more beginning", g, begins(61)), full)
	same(t, "there already", checkPut(t, "there already", g, says(60, 59)).Code, int64(impl.ErrThere))
	same(t, "parked already", checkPut(t, "parked already", g, says(101, 900)).Code, int64(impl.ErrThere))
	same(t, "wrong", checkPut(t, "wrong", g, says(60)).Code, int64(impl.ErrForm))
	checkWrongGraph(t, "one more Event", star(61, 0))
	checkWrongGraph(t, "many more Events", star(impl.MaxList+1, 0))
}

func TestMaxParked(t *testing.T) {
	g := checkPut(t, "the last that fits", star(2, 19), says(120, 900)).Graph
	same(t, "many", []int{len(g.Events), len(g.Parked)}, []int{2, 20})
	checkAsked(t, "full", g)
	full := impl.GraphOut{Code: impl.ErrFull}
	same(t, "one more", checkPut(t, "one more", g, says(121, 900)), full)
	same(t, "one more that waits for a parked one", checkPut(t, "one more", g, says(121, 1, 120)), full)
	same(t, "there already", checkPut(t, "there already", g, says(2, 900)).Code, int64(impl.ErrThere))
	same(t, "parked already", checkPut(t, "parked already", g, says(110, 1)).Code, int64(impl.ErrThere))
	same(t, "one that need not wait", checkPut(t, "one that need not wait", g, says(121, 1, 2)).Added, []int64{121})
	all := checkPut(t, "the awaited one", g, says(900, 2))
	same(t, "all come in", len(all.Added), 21)
	same(t, "none is left", len(all.Graph.Parked), 0)
	checkWrongGraph(t, "one more Parked", star(2, 21))
	checkWrongGraph(t, "many more Parked", star(2, impl.MaxList+1))
}

func TestMaxEventsHinder(t *testing.T) {
	g := star(59, 3)
	g.Parked = append(g.Parked, says(104, 103), says(105, 901))
	got := checkPut(t, "no room for those that waited", g, says(900, 1))
	same(t, "added", got.Added, []int64{900})
	same(t, "what waits for those that went, and for others, stays", idsOf(got.Graph.Parked), []int64{104, 105})
	same(t, "what went is missing", impl.MissingOf(got.Graph), []int64{103, 901})

	g = star(57, 4)
	g.Parked[0] = says(101, 103)
	got = checkPut(t, "room for some of those that waited", g, says(900, 1))
	same(t, "added, the least that could", got.Added, []int64{900, 102, 103})
	same(t, "parked", got.Graph.Parked, []impl.Event(nil))
	same(t, "missing", len(impl.MissingOf(got.Graph)), 0)

	g = star(58, 20)
	got = checkPut(t, "all parked", g, says(900, 1))
	same(t, "added", got.Added, []int64{900, 101})
	same(t, "many", []int{len(got.Graph.Events), len(got.Graph.Parked)}, []int{60, 0})

	g = star(60, 2)
	g.Parked[1] = says(102, 1, 60)
	checkWrongGraph(t, "MaxEvents Events, and one of Parked that could come in now", g)
}

func TestThereAlready(t *testing.T) {
	g := graphOf([]impl.Event{begins(1), says(2, 1)}, []impl.Event{says(3, 9), says(8, 3)})
	there := impl.GraphOut{Code: impl.ErrThere}
	for _, e := range []impl.Event{begins(1), says(2, 1), says(3, 9), says(8, 3), says(1, 2), begins(3), says(2, 77), says(8, 2), says(3, 8)} {
		same(t, "there", checkPut(t, "there", g, e), there)
	}
}

func TestParkedMayWaitForEachOther(t *testing.T) {
	g := impl.Graph{Room: 1}
	for _, e := range []impl.Event{says(5, 6), says(6, 7), says(7, 5), says(9, 7), begins(1)} {
		got := checkPut(t, "put", g, e)
		same(t, "code", got.Code, int64(impl.OK))
		g = got.Graph
		checkAsked(t, "asked", g)
	}
	same(t, "nothing to ask for", len(impl.MissingOf(g)), 0)
	same(t, "none is behind another", impl.AheadOf(g, 5, 6), false)
}

// Ways that part and meet at each step: to go each of them on its own would take for ever.
func TestManyWaysEnd(t *testing.T) {
	g := impl.Graph{Room: 1, Events: []impl.Event{begins(1), says(2, 1), says(3, 1, 2), says(4, 1, 2, 3)}}
	for id := int64(5); id <= 60; id++ {
		g.Events = append(g.Events, says(id, id-4, id-3, id-2, id-1))
	}
	same(t, "right", impl.GraphRight(g), true)
	same(t, "sorted", impl.SortOf(g), firstIds(60))
	same(t, "depth", impl.DepthOf(g, 60), int64(60))
	same(t, "ahead", impl.AheadOf(g, 1, 60), true)
	same(t, "behind", impl.AheadOf(g, 60, 1), false)
	g.Events[1] = says(2, 1, 60)
	checkWrongGraph(t, "a loop through all", g)
}

func TestWrongGraphs(t *testing.T) {
	other := says(2, 1)
	other.Room = 2
	wrong := says(2, 1)
	wrong.Author = 7
	a, b := begins(1), says(2, 1)
	rows := []struct {
		what           string
		events, parked []impl.Event
	}{
		{"an event that is not right", []impl.Event{a, wrong}, nil},
		{"a zero event", []impl.Event{{}}, nil},
		{"a saying without Prev", []impl.Event{says(1)}, nil},
		{"a parked one that is not right", []impl.Event{a}, []impl.Event{{Id: 5, Room: 1, Author: 1, Kind: 9, Prev: []int64{4}}}},
		{"an event of another Room", []impl.Event{a, other}, nil},
		{"a parked one of another Room", nil, []impl.Event{other}},
		{"Events fall", []impl.Event{b, a}, nil},
		{"Events alike", []impl.Event{a, a}, nil},
		{"Events alike at the end", []impl.Event{a, b, b}, nil},
		{"Parked fall", nil, []impl.Event{says(6, 9), says(5, 9)}},
		{"Parked alike", nil, []impl.Event{says(5, 9), says(5, 8)}},
		{"an Id in both", []impl.Event{a, b}, []impl.Event{says(2, 9)}},
		{"an event behind one that is nowhere", []impl.Event{a, says(2, 1, 9)}, nil},
		{"an event behind nothing that is there", []impl.Event{says(2, 1)}, nil},
		{"an event behind a parked one", []impl.Event{a, says(3, 1, 5)}, []impl.Event{says(5, 9)}},
		{"two behind each other", []impl.Event{a, says(2, 1, 3), says(3, 2)}, nil},
		{"two behind each other alone", []impl.Event{says(2, 3), says(3, 2)}, nil},
		{"three in a ring, and one behind it", []impl.Event{a, says(2, 4), says(3, 2), says(4, 1, 3), says(5, 1, 4)}, nil},
		{"one ahead of a ring", []impl.Event{a, says(2, 1), says(3, 2, 4), says(4, 3)}, nil},
		{"a parked one that waits for nothing", []impl.Event{a, b}, []impl.Event{says(5, 1, 2)}},
		{"a parked beginning", []impl.Event{a}, []impl.Event{begins(5)}},
		{"a parked beginning alone", nil, []impl.Event{begins(5)}},
		{"one of several parked that waits for nothing", []impl.Event{a, b}, []impl.Event{says(5, 9), says(6, 2), says(7, 6)}},
	}
	for _, r := range rows {
		g := impl.Graph{Room: 1, Events: r.events, Parked: r.parked}
		same(t, r.what+": model", modelRight(g), false)
		checkWrongGraph(t, r.what, g)
	}
	for room := int64(2); room <= 3; room++ {
		checkWrongGraph(t, "events of another Room", impl.Graph{Room: room, Events: []impl.Event{a}})
	}
}

func TestPutOfWrongEvents(t *testing.T) {
	g := graphOf([]impl.Event{begins(1), says(2, 1)}, []impl.Event{says(8, 9)})
	form := impl.GraphOut{Code: impl.ErrForm}
	other, there := says(3, 1), says(2, 1)
	other.Room, there.Room = 2, 3
	long := says(3, 1)
	long.Text = letters(impl.MaxText + 1)
	for _, e := range []impl.Event{{}, says(3), says(0, 1), says(3, 3), says(3, 2, 1), says(3, 1, 2, 8, 9, 10), long, other, there, says(2), says(8)} {
		same(t, "put", checkPut(t, "put", g, e), form)
	}
}

// Any small graph, right or not, is told as the model tells it.
func TestSmallGraphs(t *testing.T) {
	d := dice(11)
	right, looped := 0, 0
	someRow := func(most int) []impl.Event {
		var out []impl.Event
		for id := int64(1); id <= 6; id++ {
			if d.below(6) >= most {
				continue
			}
			var prev []int64
			for p := int64(1); p <= 6; p++ {
				if p != id && d.below(5) == 0 {
					prev = append(prev, p)
				}
			}
			if len(prev) == 0 {
				out = append(out, begins(id))
			} else {
				out = append(out, says(id, prev...))
			}
		}
		return out
	}
	for range 20000 {
		g := impl.Graph{Room: 1, Events: someRow(3), Parked: someRow(1)}
		want := modelRight(g)
		if impl.GraphRight(g) != want {
			t.Fatalf("GraphRight(%+v): got %v", g, !want)
		}
		if want {
			right++
			checkAsked(t, "small", g)
			checkPut(t, "small put", g, says(int64(1+d.below(8)), 9, 10))
			checkPut(t, "small put", g, begins(int64(1+d.below(8))))
		} else if !modelRight(impl.Graph{Room: 1, Events: g.Events}) {
			looped++
		}
	}
	if right < 1000 || looped < 1000 {
		t.Errorf("too few: %d right ones, %d of wrong Events", right, looped)
	}
}

// Whatever is put, one after another, a graph stays right, and is what the model says.
func TestPutsOneAfterAnother(t *testing.T) {
	d := dice(13)
	codes := map[int64]int{}
	for range 40 {
		g := impl.Graph{Room: 1}
		for range 150 {
			e := begins(int64(1 + d.below(90)))
			if d.below(12) > 0 {
				var prev []int64
				for range 1 + d.below(2) {
					prev = append(prev, int64(1+d.below(90)))
				}
				slices.Sort(prev)
				e = says(e.Id, slices.Compact(prev)...)
			}
			got := checkPut(t, "put", g, e)
			codes[got.Code]++
			if got.Code == impl.OK {
				g = got.Graph
			}
		}
		same(t, "sorted", len(impl.SortOf(g)), len(g.Events))
		same(t, "missing", impl.MissingOf(g), modelMissing(g))
	}
	for _, code := range []int64{impl.OK, impl.ErrForm, impl.ErrThere, impl.ErrFull} {
		if codes[code] == 0 {
			t.Errorf("no put told %d: %v", code, codes)
		}
	}
}

func TestGraphsAreNotChangedNorKept(t *testing.T) {
	shared := []int64{1, 2, 77, 78}
	events := []impl.Event{begins(1), says(2, shared[:1]...), says(3, 1, 2), says(66, 1)}
	parked := []impl.Event{says(5, shared[:3]...), says(6, 5), says(67, 99)}
	events[0].Prev = shared[:0]
	g := impl.Graph{Room: 1, Events: events[:3], Parked: parked[:2]}
	e := says(77, shared[1:2]...)
	before := []any{twinRow(events[1:]), twinRow(parked), slices.Clone(shared)}
	unchanged := func(what string) {
		t.Helper()
		same(t, what, []any{twinRow(events[1:]), twinRow(parked), slices.Clone(shared)}, before)
	}
	put := impl.GraphPut(g, e)
	same(t, "added", put.Added, []int64{77, 5, 6})
	isNewMemory(t, "put", put, g, e)
	unchanged("put")
	parkedOut := impl.GraphPut(g, says(9, 8))
	isNewMemory(t, "put of one that waits", parkedOut, g)
	at := impl.EventAt(g, 3)
	isNewMemory(t, "event", at, g)
	isNewMemory(t, "the first event", impl.EventAt(g, 1), g)
	sorted, missing := impl.SortOf(g), impl.MissingOf(g)
	isNewMemory(t, "sorted", sorted, g)
	isNewMemory(t, "missing", missing, g)
	impl.GraphRight(g)
	impl.DepthOf(g, 3)
	impl.AheadOf(g, 1, 3)
	unchanged("asked")

	at.Prev[0], sorted[0], missing[0] = 50, 50, 50
	put.Graph.Events[1].Prev[0], put.Added[0] = 50, 50
	unchanged("an answer that is changed")
	same(t, "asked anew", []any{impl.EventAt(g, 3).Prev, impl.SortOf(g), impl.MissingOf(g)}, []any{[]int64{1, 2}, []int64{1, 2, 3}, []int64{77}})
	again := impl.GraphPut(g, e)
	same(t, "put anew", again.Added, []int64{77, 5, 6})
	events[2].Prev[0], events[1].Text = 50, "another one"
	same(t, "an answer when what was handed in changes", again.Graph.Events[1:3], []impl.Event{says(2, 1), says(3, 1, 2)})
}
