package tests

import (
	"reflect"
	"strings"
	"testing"
	"unsafe"
)

func same(t *testing.T, what string, got any, want any) {
	t.Helper()
	if !reflect.DeepEqual(got, want) {
		t.Errorf("%s: got %+v, want %+v", what, got, want)
	}
}

// letters is a text of so many bytes that does not repeat itself in short steps.
func letters(many int) string {
	var b strings.Builder
	for i := range many {
		b.WriteByte(byte('a' + (i*i+i/26)%26))
	}
	return b.String()
}

// shares tells whether two texts lie in the same memory, even if only in part.
func shares(a string, b string) bool {
	if a == "" || b == "" {
		return false
	}
	aFrom := uintptr(unsafe.Pointer(unsafe.StringData(a)))
	bFrom := uintptr(unsafe.Pointer(unsafe.StringData(b)))
	return aFrom < bFrom+uintptr(len(b)) && bFrom < aFrom+uintptr(len(a))
}

// place is where a list or a text lies; of a list all that it could grow into belongs to it.
type place struct {
	from, to uintptr
	list     bool
}

func (p place) meets(q place) bool {
	return p.from < q.to && q.from < p.to
}

// placesIn finds the lists and texts of a value, also those within others.
func placesIn(v reflect.Value) []place {
	var out []place
	switch v.Kind() {
	case reflect.String:
		from := uintptr(unsafe.Pointer(unsafe.StringData(v.String())))
		return []place{{from, from + uintptr(v.Len()), false}}
	case reflect.Slice:
		from := v.Pointer()
		out = append(out, place{from, from + uintptr(v.Cap())*v.Type().Elem().Size(), true})
		for i := range v.Len() {
			out = append(out, placesIn(v.Index(i))...)
		}
	case reflect.Struct:
		for i := range v.NumField() {
			out = append(out, placesIn(v.Field(i))...)
		}
	}
	return out
}

// isNewMemory checks that an answer shares nothing with what was handed in, and that its lists share nothing with each other.
func isNewMemory(t *testing.T, what string, answer any, handed ...any) {
	t.Helper()
	told := placesIn(reflect.ValueOf(answer))
	var given []place
	for _, h := range handed {
		given = append(given, placesIn(reflect.ValueOf(h))...)
	}
	for i, p := range told {
		for _, q := range told[:i] {
			if p.list && q.list && p.meets(q) {
				t.Errorf("%s: two lists of the answer share memory", what)
			}
		}
		for _, q := range given {
			if p.meets(q) {
				t.Errorf("%s: the answer shares memory with what was handed in", what)
			}
		}
	}
}

// dice throws the same numbers in each run.
type dice uint64

func (d *dice) below(n int) int {
	*d = *d*6364136223846793005 + 1442695040888963407
	return int(uint64(*d>>33) % uint64(n))
}

func (d *dice) mix(n int, swap func(i int, j int)) {
	for i := n - 1; i > 0; i-- {
		swap(i, d.below(i+1))
	}
}
