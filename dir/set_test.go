package dir

import (
	"slices"
	"testing"
)

// The chapter's Ways: cores of a set are gone through by rising numbers, each once, and no further than asked.
func TestSetOfCores(t *testing.T) {
	s := set(0).with(3).with(0).with(2).with(0)
	if got := slices.Collect(s.each()); !slices.Equal(got, []int{0, 2, 3}) {
		t.Error(got)
	}
	for core, want := range []bool{true, false, true, true, false} {
		if s.has(core) != want {
			t.Errorf("core %d: %v", core, !want)
		}
	}
	if got := slices.Collect(s.less(2).less(1).each()); !slices.Equal(got, []int{0, 3}) {
		t.Error(got)
	}
	var first []int
	for core := range s.each() {
		first = append(first, core)
		if len(first) == 2 {
			break
		}
	}
	if !slices.Equal(first, []int{0, 2}) {
		t.Error(first)
	}
	for core := range set(0).each() {
		t.Errorf("core %d of none", core)
	}
}
