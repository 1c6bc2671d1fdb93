package tests

import (
	"reflect"
	"strings"
	"testing"
	"unsafe"
)

func same(t *testing.T, what string, got any, want any) {
	t.Helper()
	if !reflect.DeepEqual(got, want) {
		t.Errorf("%s: got %+v, want %+v", what, got, want)
	}
}

// letters is a text of so many bytes that does not repeat itself in short steps.
func letters(many int) string {
	var b strings.Builder
	for i := range many {
		b.WriteByte(byte('a' + (i*i+i/26)%26))
	}
	return b.String()
}

// shares tells whether two texts lie in the same memory, even if only in part.
func shares(a string, b string) bool {
	if a == "" || b == "" {
		return false
	}
	aFrom := uintptr(unsafe.Pointer(unsafe.StringData(a)))
	bFrom := uintptr(unsafe.Pointer(unsafe.StringData(b)))
	return aFrom < bFrom+uintptr(len(b)) && bFrom < aFrom+uintptr(len(a))
}
