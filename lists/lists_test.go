package lists

import (
	"slices"
	"strings"
	"testing"

	"ebbtide/api"
)

func TestTags(t *testing.T) {
	if l := Tags(); len(l) != 0 {
		t.Error(l)
	}
	want := []api.Tag{{Name: "a", Value: "1"}, {Name: "b", Value: "2"}, {Name: "c"}}
	if l := Tags("a", "1", "b", "2"); !slices.Equal(l, want[:2]) {
		t.Error(l)
	}
	if l := Tags("a", "1", "b", "2", "c"); !slices.Equal(l, want) {
		t.Error(l)
	}
}

func TestEachShort(t *testing.T) {
	got := []string{}
	EachShort([]string{"a", "b"}, 2, func(l []string) { got = append(got, strings.Join(l, "")) })
	if want := []string{"", "a", "b", "aa", "ab", "ba", "bb"}; !slices.Equal(got, want) {
		t.Error(got)
	}
}

func TestEachOrder(t *testing.T) {
	got := []string{}
	EachOrder([]string{"a", "b", "c"}, func(l []string) { got = append(got, strings.Join(l, "")) })
	if want := []string{"abc", "acb", "bac", "bca", "cab", "cba"}; !slices.Equal(got, want) {
		t.Error(got)
	}
	calls := 0
	EachOrder(nil, func(l []string) { calls++ })
	if calls != 1 {
		t.Error(calls)
	}
}
