package tests

import (
	"cmp"
	"math"
	"slices"
	"testing"

	"loop.example/g00683/impl"
)

// A model of the chapter, that goes through lists and keeps no map.

func slotPlace(s []impl.Entry, kind int64, key int64) int {
	return slices.IndexFunc(s, func(x impl.Entry) bool { return x.Kind == kind && x.Key == key })
}

func modelSlotRight(x impl.Entry) bool {
	return 1 <= x.Kind && x.Kind <= 6 && 0 <= x.Key && x.Key <= 6
}

func modelCanStand(x impl.Entry) bool {
	return modelSlotRight(x) && 1 <= x.Id && x.Id <= 1000000
}

func modelCanChange(x impl.Entry) bool {
	return x.Id == 0 && modelSlotRight(x) || modelCanStand(x)
}

func modelRises(s []impl.Entry) bool {
	for i := 1; i < len(s); i++ {
		a, b := s[i-1], s[i]
		if a.Kind > b.Kind || a.Kind == b.Kind && a.Key >= b.Key {
			return false
		}
	}
	return true
}

func modelStateRight(s []impl.Entry) bool {
	return len(s) <= 400 && modelRises(s) && !slices.ContainsFunc(s, func(x impl.Entry) bool { return !modelCanStand(x) })
}

func modelStateAt(s []impl.Entry, kind int64, key int64) int64 {
	if i := slotPlace(s, kind, key); i >= 0 && modelStateRight(s) {
		return s[i].Id
	}
	return 0
}

// modelSet leaves out the Entry of x's Kind and Key, and takes in x, if it has an Id.
func modelSet(s []impl.Entry, x impl.Entry) []impl.Entry {
	var out []impl.Entry
	for kind := int64(1); kind <= 6; kind++ {
		for key := int64(0); key <= 6; key++ {
			i := slotPlace(s, kind, key)
			if x.Kind == kind && x.Key == key {
				if x.Id != 0 {
					out = append(out, x)
				}
			} else if i >= 0 {
				out = append(out, s[i])
			}
		}
	}
	return out
}

func modelStatePut(s []impl.Entry, x impl.Entry) impl.StateOut {
	if len(s) > 400 {
		return impl.StateOut{Code: impl.ErrSize}
	}
	if !modelStateRight(s) || !modelCanStand(x) {
		return impl.StateOut{Code: impl.ErrForm}
	}
	return impl.StateOut{State: modelSet(s, x)}
}

func modelStateDiff(a []impl.Entry, b []impl.Entry) []impl.Entry {
	if !modelStateRight(a) || !modelStateRight(b) {
		return nil
	}
	var out []impl.Entry
	for kind := int64(1); kind <= 6; kind++ {
		for key := int64(0); key <= 6; key++ {
			if was, is := modelStateAt(a, kind, key), modelStateAt(b, kind, key); was != is {
				out = append(out, impl.Entry{Kind: kind, Key: key, Id: is})
			}
		}
	}
	return out
}

func modelStateApply(a []impl.Entry, diff []impl.Entry) impl.StateOut {
	if len(a) > 400 || len(diff) > 400 {
		return impl.StateOut{Code: impl.ErrSize}
	}
	if !modelStateRight(a) || !modelRises(diff) || slices.ContainsFunc(diff, func(x impl.Entry) bool { return !modelCanChange(x) }) {
		return impl.StateOut{Code: impl.ErrForm}
	}
	out := append([]impl.Entry(nil), a...)
	for _, x := range diff {
		out = modelSet(out, x)
	}
	return impl.StateOut{State: out}
}

// roomy is the same list in memory of its own, which has room for more; it tells all of that memory as well.
func roomy(s []impl.Entry) ([]impl.Entry, []impl.Entry) {
	all := append(slices.Clone(s), impl.Entry{Kind: -5}, impl.Entry{Key: -6}, impl.Entry{Id: -7})
	return all[:len(s)], all
}

func checkStatePut(t *testing.T, what string, s []impl.Entry, x impl.Entry) impl.StateOut {
	t.Helper()
	handed, all := roomy(s)
	kept := slices.Clone(all)
	got := impl.StatePut(handed, x)
	same(t, what, got, modelStatePut(s, x))
	same(t, what+": what was handed in", all, kept)
	isNewMemory(t, what, got, handed)
	return got
}

func checkStateDiff(t *testing.T, what string, a []impl.Entry, b []impl.Entry) []impl.Entry {
	t.Helper()
	handedA, allA := roomy(a)
	handedB, allB := roomy(b)
	keptA, keptB := slices.Clone(allA), slices.Clone(allB)
	got := impl.StateDiff(handedA, handedB)
	same(t, what, got, modelStateDiff(a, b))
	same(t, what+": the first handed in", allA, keptA)
	same(t, what+": the second handed in", allB, keptB)
	isNewMemory(t, what, got, handedA, handedB)
	return got
}

func checkStateApply(t *testing.T, what string, a []impl.Entry, diff []impl.Entry) impl.StateOut {
	t.Helper()
	handedA, allA := roomy(a)
	handedDiff, allDiff := roomy(diff)
	keptA, keptDiff := slices.Clone(allA), slices.Clone(allDiff)
	got := impl.StateApply(handedA, handedDiff)
	same(t, what, got, modelStateApply(a, diff))
	same(t, what+": the state handed in", allA, keptA)
	same(t, what+": the difference handed in", allDiff, keptDiff)
	isNewMemory(t, what, got, handedA, handedDiff)
	return got
}

// checkStateAsked asks a list of each Kind and Key that there may be, and of those beside them.
func checkStateAsked(t *testing.T, what string, s []impl.Entry) {
	t.Helper()
	handed, all := roomy(s)
	kept := slices.Clone(all)
	same(t, what+": right", impl.StateRight(handed), modelStateRight(s))
	for _, kind := range []int64{math.MinInt64, -1, 0, 1, 2, 3, 4, 5, 6, 7, 8, math.MaxInt64} {
		for _, key := range []int64{math.MinInt64, -1, 0, 1, 2, 3, 4, 5, 6, 7, math.MaxInt64} {
			same(t, what+": at", impl.StateAt(handed, kind, key), modelStateAt(s, kind, key))
		}
	}
	same(t, what+": what was handed in", all, kept)
}

// drawnState has each Kind and Key that there may be in about so many of ten cases.
func drawnState(d *dice, ofTen int) []impl.Entry {
	ids := []int64{1, 2, 3, 1000, impl.MaxTime}
	var out []impl.Entry
	for kind := int64(impl.EvCreate); kind <= impl.EvSight; kind++ {
		for key := int64(0); key <= impl.MaxUsers; key++ {
			if d.below(10) < ofTen {
				out = append(out, impl.Entry{Kind: kind, Key: key, Id: ids[d.below(len(ids))]})
			}
		}
	}
	return out
}

// someState has gaps ahead of all, between and behind all.
func someState() []impl.Entry {
	return []impl.Entry{{Kind: 1, Key: 1, Id: 9}, {Kind: 2, Key: 0, Id: 4}, {Kind: 2, Key: 3, Id: 5}, {Kind: 3, Key: 0, Id: 4}, {Kind: 5, Key: 6, Id: 1}, {Kind: 6, Key: 4, Id: impl.MaxTime}}
}

// wrongEntries could stand in no state; in a difference, neither.
func wrongEntries() []impl.Entry {
	return []impl.Entry{
		{Kind: 0, Key: 2, Id: 3}, {Kind: -1, Key: 2, Id: 3}, {Kind: impl.EvSight + 1, Key: 2, Id: 3}, {Kind: impl.EvHide, Key: 2, Id: 3},
		{Kind: math.MinInt64, Key: 2, Id: 3}, {Kind: math.MaxInt64, Key: 2, Id: 3},
		{Kind: 4, Key: -1, Id: 3}, {Kind: 4, Key: impl.MaxUsers + 1, Id: 3}, {Kind: 4, Key: math.MinInt64, Id: 3}, {Kind: 4, Key: math.MaxInt64, Id: 3},
		{Kind: 4, Key: 2, Id: -1}, {Kind: 4, Key: 2, Id: impl.MaxTime + 1}, {Kind: 4, Key: 2, Id: math.MinInt64}, {Kind: 4, Key: 2, Id: math.MaxInt64},
		{}, {Kind: 7}, {Kind: 1, Key: 7}, {Kind: 1, Key: -1},
	}
}

// unrisingLists have Entries that could stand, but not so.
func unrisingLists() [][]impl.Entry {
	return [][]impl.Entry{
		{{Kind: 2, Key: 1, Id: 1}, {Kind: 1, Key: 2, Id: 2}},
		{{Kind: 2, Key: 2, Id: 1}, {Kind: 2, Key: 1, Id: 2}},
		{{Kind: 2, Key: 2, Id: 1}, {Kind: 2, Key: 2, Id: 1}},
		{{Kind: 2, Key: 2, Id: 1}, {Kind: 2, Key: 2, Id: 2}},
		{{Kind: 2, Key: 2, Id: 2}, {Kind: 2, Key: 2, Id: 1}},
		{{Kind: 1, Key: 0, Id: 1}, {Kind: 3, Key: 0, Id: 2}, {Kind: 2, Key: 6, Id: 3}},
		{{Kind: 1, Key: 0, Id: 1}, {Kind: 2, Key: 0, Id: 2}, {Kind: 1, Key: 0, Id: 3}},
	}
}

// withEntry puts an Entry where its Kind and Key ask for it, so that nothing but itself is wrong.
func withEntry(s []impl.Entry, x impl.Entry) []impl.Entry {
	out := append(slices.Clone(s), x)
	slices.SortStableFunc(out, func(a, b impl.Entry) int {
		return cmp.Or(cmp.Compare(a.Kind, b.Kind), cmp.Compare(a.Key, b.Key))
	})
	return out
}

func wrongStates() [][]impl.Entry {
	out := unrisingLists()
	for _, x := range wrongEntries() {
		out = append(out, []impl.Entry{x}, withEntry(someState(), x))
	}
	return append(out, []impl.Entry{{Kind: 1, Key: 1, Id: 0}}, withEntry(someState(), impl.Entry{Kind: 4, Key: 2}), make([]impl.Entry, impl.MaxList))
}

// checkWrongState checks that each call refuses a list as a state.
func checkWrongState(t *testing.T, what string, s []impl.Entry, code int64) {
	t.Helper()
	refused := impl.StateOut{Code: code}
	checkStateAsked(t, what, s)
	same(t, what+": right", impl.StateRight(s), false)
	for _, x := range []impl.Entry{{Kind: 1, Key: 1, Id: 1}, {Kind: 6, Key: 6, Id: 7}, {}} {
		same(t, what+": put", checkStatePut(t, what, s, x), refused)
	}
	for _, other := range [][]impl.Entry{nil, someState(), s} {
		same(t, what+": to another one", checkStateDiff(t, what, s, other), []impl.Entry(nil))
		same(t, what+": from another one", checkStateDiff(t, what, other, s), []impl.Entry(nil))
		same(t, what+": apply", checkStateApply(t, what, s, other), refused)
	}
}

// Promise 5: what one state differs from another one by makes the other one of it.
func TestDifferenceMakesTheOther(t *testing.T) {
	d := dice(5)
	for i := range 600 {
		a, b := drawnState(&d, i%11), drawnState(&d, d.below(11))
		there, back := checkStateDiff(t, "there", a, b), checkStateDiff(t, "back", b, a)
		same(t, "the other of the one", checkStateApply(t, "apply", a, there), impl.StateOut{State: b})
		same(t, "the one of the other", checkStateApply(t, "apply", b, back), impl.StateOut{State: a})
		same(t, "again", checkStateApply(t, "apply", b, there), impl.StateOut{State: b})
		same(t, "as many there as back", len(there), len(back))
		same(t, "to itself", checkStateDiff(t, "itself", a, a), []impl.Entry(nil))
		same(t, "nothing makes itself", checkStateApply(t, "apply", a, nil), impl.StateOut{State: a})
		same(t, "of nothing", checkStateDiff(t, "of nothing", nil, a), a)
		same(t, "right", impl.StateRight(a), true)
	}
}

func TestDifferenceIsTold(t *testing.T) {
	a := []impl.Entry{{Kind: 1, Key: 0, Id: 1}, {Kind: 2, Key: 1, Id: 2}, {Kind: 2, Key: 2, Id: 3}, {Kind: 6, Key: 0, Id: 8}}
	b := []impl.Entry{{Kind: 2, Key: 0, Id: 1}, {Kind: 2, Key: 1, Id: 2}, {Kind: 2, Key: 2, Id: 4}, {Kind: 5, Key: 6, Id: 8}}
	want := []impl.Entry{{Kind: 1, Key: 0}, {Kind: 2, Key: 0, Id: 1}, {Kind: 2, Key: 2, Id: 4}, {Kind: 5, Key: 6, Id: 8}, {Kind: 6, Key: 0}}
	same(t, "from one to the other", checkStateDiff(t, "diff", a, b), want)
	same(t, "to nothing", checkStateDiff(t, "diff", a, []impl.Entry{}), []impl.Entry{{Kind: 1, Key: 0}, {Kind: 2, Key: 1}, {Kind: 2, Key: 2}, {Kind: 6, Key: 0}})
	same(t, "nothing to nothing", checkStateDiff(t, "diff", []impl.Entry{}, nil), []impl.Entry(nil))
}

func TestPutInItsPlace(t *testing.T) {
	s := someState()
	for _, want := range []struct {
		x  impl.Entry
		at int
	}{
		{impl.Entry{Kind: 1, Key: 0, Id: 7}, 0},
		{impl.Entry{Kind: 1, Key: 2, Id: 7}, 1},
		{impl.Entry{Kind: 2, Key: 1, Id: 7}, 2},
		{impl.Entry{Kind: 2, Key: 6, Id: 1}, 3},
		{impl.Entry{Kind: 4, Key: 3, Id: impl.MaxTime}, 4},
		{impl.Entry{Kind: 6, Key: 5, Id: 7}, 6},
	} {
		same(t, "put", checkStatePut(t, "put", s, want.x), impl.StateOut{State: slices.Insert(slices.Clone(s), want.at, want.x)})
	}
	for i, x := range s {
		for _, id := range []int64{1, x.Id, 500, impl.MaxTime} {
			x.Id = id
			changed := slices.Clone(s)
			changed[i] = x
			same(t, "put in the place of one", checkStatePut(t, "put", s, x), impl.StateOut{State: changed})
		}
	}
}

func TestEveryPutAndAsked(t *testing.T) {
	d := dice(55)
	for i := range 22 {
		s := drawnState(&d, i%11)
		checkStateAsked(t, "asked", s)
		for kind := int64(-1); kind <= 9; kind++ {
			for key := int64(-2); key <= 8; key++ {
				for _, id := range []int64{-1, 0, 1, 77, impl.MaxTime, impl.MaxTime + 1} {
					x := impl.Entry{Kind: kind, Key: key, Id: id}
					checkStatePut(t, "put", s, x)
					checkStateApply(t, "apply", s, []impl.Entry{x})
				}
			}
		}
	}
}

// Whatever order its Entries are put in, a state is the same.
func TestGreatestState(t *testing.T) {
	d := dice(3)
	want := drawnState(&d, 10)
	same(t, "as many as there can be", len(want), 42)
	row := slices.Clone(want)
	for range 10 {
		d.mix(len(row), func(i, j int) { row[i], row[j] = row[j], row[i] })
		var s []impl.Entry
		for _, x := range row {
			s = checkStatePut(t, "put", s, x).State
		}
		same(t, "all put", s, want)
	}
	checkStateAsked(t, "asked", want)
}

func TestEmptyStates(t *testing.T) {
	for _, s := range [][]impl.Entry{nil, {}} {
		checkStateAsked(t, "nothing", s)
		same(t, "right", impl.StateRight(s), true)
		x := impl.Entry{Kind: 1, Key: 0, Id: 1}
		same(t, "put", checkStatePut(t, "put", s, x), impl.StateOut{State: []impl.Entry{x}})
		same(t, "apply nothing", impl.StateApply(s, nil), impl.StateOut{})
		same(t, "apply an empty list", impl.StateApply(nil, s), impl.StateOut{})
		same(t, "apply what goes", impl.StateApply(s, []impl.Entry{{Kind: 1}, {Kind: 6, Key: 6}}), impl.StateOut{})
		same(t, "leave nothing", impl.StateApply([]impl.Entry{x}, []impl.Entry{{Kind: 1}}), impl.StateOut{})
		same(t, "difference", impl.StateDiff(s, s), []impl.Entry(nil))
	}
}

func TestTakenAway(t *testing.T) {
	s := someState()
	for i, x := range s {
		x.Id = 0
		same(t, "gone", checkStateApply(t, "apply", s, []impl.Entry{x}), impl.StateOut{State: slices.Delete(slices.Clone(s), i, i+1)})
		same(t, "can not be put", checkStatePut(t, "put", s, x), impl.StateOut{Code: impl.ErrForm})
	}
	for _, x := range []impl.Entry{{Kind: 1, Key: 0}, {Kind: 2, Key: 2}, {Kind: 4, Key: 4}, {Kind: 6, Key: 6}} {
		same(t, "was not there", checkStateApply(t, "apply", s, []impl.Entry{x}), impl.StateOut{State: s})
	}
}

func TestWrongStates(t *testing.T) {
	for _, s := range wrongStates() {
		checkWrongState(t, "wrong", s, impl.ErrForm)
	}
	d := dice(12)
	for range 300 {
		s := drawnState(&d, 5)
		if len(s) < 2 {
			continue
		}
		i := d.below(len(s) - 1)
		s[i], s[i+1] = s[i+1], s[i]
		checkWrongState(t, "two the other way round", s, impl.ErrForm)
		s[i] = s[i+1]
		checkWrongState(t, "one twice", s, impl.ErrForm)
	}
}

func TestWrongEntriesAreNotPut(t *testing.T) {
	for _, x := range append(wrongEntries(), impl.Entry{Kind: 4, Key: 2}, impl.Entry{Kind: 1}) {
		same(t, "put into nothing", checkStatePut(t, "put", nil, x), impl.StateOut{Code: impl.ErrForm})
		same(t, "put", checkStatePut(t, "put", someState(), x), impl.StateOut{Code: impl.ErrForm})
	}
}

func TestWrongDifferences(t *testing.T) {
	refused := impl.StateOut{Code: impl.ErrForm}
	wrong := append(unrisingLists(), []impl.Entry{{Kind: 2, Key: 2}, {Kind: 2, Key: 2}}, []impl.Entry{{Kind: 2, Key: 2}, {Kind: 2, Key: 2, Id: 1}}, []impl.Entry{{Kind: 2, Key: 2}, {Kind: 1, Key: 2}})
	for _, x := range wrongEntries() {
		wrong = append(wrong, []impl.Entry{x}, withEntry(someState(), x))
	}
	for _, diff := range append(wrong, make([]impl.Entry, impl.MaxList)) {
		for _, s := range [][]impl.Entry{nil, someState()} {
			same(t, "wrong difference", checkStateApply(t, "apply", s, diff), refused)
		}
	}
}

// Lists that are too long are refused ahead of all else that may be wrong.
func TestStateListsTooLong(t *testing.T) {
	d := dice(9)
	right := drawnState(&d, 10)
	for _, long := range [][]impl.Entry{make([]impl.Entry, impl.MaxList+1), slices.Repeat(right, 10)[:impl.MaxList+1], slices.Repeat(right, 200)} {
		checkWrongState(t, "too long", long, impl.ErrSize)
		for _, s := range [][]impl.Entry{nil, right, {{Kind: 9}}, long} {
			same(t, "too long a difference", checkStateApply(t, "apply", s, long), impl.StateOut{Code: impl.ErrSize})
		}
		same(t, "too long a state, and a wrong difference", checkStateApply(t, "apply", long, []impl.Entry{{Kind: 9}}), impl.StateOut{Code: impl.ErrSize})
	}
	for _, most := range [][]impl.Entry{make([]impl.Entry, impl.MaxList), slices.Repeat(right, 10)[:impl.MaxList]} {
		checkWrongState(t, "not too long, but not right", most, impl.ErrForm)
		same(t, "not too long a difference, but not right", checkStateApply(t, "apply", right, most), impl.StateOut{Code: impl.ErrForm})
	}
}
