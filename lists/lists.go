// Package lists makes lists that tests hand in: tags, all short lists, all orders.
package lists

import (
	"slices"

	"ebbtide/api"
)

// Tags makes tags of names and values, one behind the other; a name without a value has an empty one.
func Tags(words ...string) []api.Tag {
	var l []api.Tag
	for pair := range slices.Chunk(words, 2) {
		t := api.Tag{Name: pair[0]}
		if len(pair) == 2 {
			t.Value = pair[1]
		}
		l = append(l, t)
	}
	return l
}

// EachShort hands to call all lists of at most n of those in some, the shorter ones first.
func EachShort[T any](some []T, n int, call func(l []T)) {
	short := [][]T{nil}
	for range n + 1 {
		var longer [][]T
		for _, l := range short {
			call(l)
			for _, one := range some {
				longer = append(longer, append(slices.Clone(l), one))
			}
		}
		short = longer
	}
}

// EachOrder hands to call what stands in l, in every order.
func EachOrder[T any](l []T, call func(l []T)) {
	place(nil, l, call)
}

// place puts each of rest behind head, and what is left then behind that.
func place[T any](head, rest []T, call func(l []T)) {
	if len(rest) == 0 {
		call(head)
	}
	for i := range rest {
		place(append(slices.Clone(head), rest[i]), slices.Concat(rest[:i], rest[i+1:]), call)
	}
}
