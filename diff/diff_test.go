package diff

import (
	"cmp"
	"maps"
	"math"
	"math/big"
	"slices"
	"strings"
	"testing"

	"ebbtide/api"
	"ebbtide/lists"
	"ebbtide/row"
	"ebbtide/sat"
	"ebbtide/tag"
)

const (
	top  = math.MaxInt64
	low  = math.MinInt64
	wide = "99999999999999999999" // no 64 bits hold it
)

// A row, and one whose value ran over.
func some(window int64, group string, n int64) api.Row {
	return api.Row{Window: window, Group: group, Value: api.Sum{N: n}}
}
func over(window int64, group string, n int64) api.Row {
	return api.Row{Window: window, Group: group, Value: api.Sum{N: n, Over: true}}
}

// A row that comes, one that goes, and a list of changes.
func comes(r api.Row) api.Change { return api.Change{Row: r} }
func goes(window int64, group string) api.Change {
	return api.Change{Row: api.Row{Window: window, Group: group}, Gone: true}
}
func all(l ...api.Change) []api.Change { return l }

// rows are those of a text.
func rows(t *testing.T, s string) []api.Row {
	t.Helper()
	l, e := row.Parse(s)
	if e != api.OK {
		t.Fatalf("%q are no rows: %d", s, e)
	}
	return l
}

// place is what rows meet at.
type place struct {
	window int64
	group  string
}

// values are a list's, by their places.
func values(l []api.Row) map[place]api.Sum {
	m := map[place]api.Sum{}
	for _, r := range l {
		m[place{r.Window, r.Group}] = r.Value
	}
	return m
}

// inOrder are places as they rise.
func inOrder(l []place) []place {
	return slices.SortedFunc(slices.Values(l), func(a, b place) int {
		return cmp.Or(cmp.Compare(a.window, b.window), cmp.Compare(a.group, b.group))
	})
}

// wantOf is what Of must answer, the long way: each place of either is looked up in both.
func wantOf(a, b []api.Row) ([]api.Change, api.Errno) {
	if !row.Right(a) || !row.Right(b) {
		return nil, api.ErrOrder
	}
	was, is := values(a), values(b)
	either := maps.Clone(was)
	maps.Copy(either, is)
	var l []api.Change
	for _, at := range inOrder(slices.Collect(maps.Keys(either))) {
		old, had := was[at]
		value, has := is[at]
		if !has {
			l = append(l, goes(at.window, at.group))
		} else if !had || old.N != value.N || old.Over != value.Over {
			l = append(l, comes(api.Row{Window: at.window, Group: at.group, Value: value}))
		}
	}
	return l, api.OK
}

// wantOrdered: are changes in order?
func wantOrdered(l []api.Change) bool {
	var rows []api.Row
	for _, c := range l {
		if c.Gone && (c.Row.Value.N != 0 || c.Row.Value.Over) {
			return false
		}
		rows = append(rows, c.Row)
	}
	return row.Right(rows)
}

// wantApply is what Apply must answer, the long way: by a map of what there is.
func wantApply(l []api.Row, changes []api.Change) ([]api.Row, api.Errno) {
	if !row.Right(l) || !wantOrdered(changes) {
		return nil, api.ErrOrder
	}
	is := values(l)
	for _, c := range changes {
		at := place{c.Row.Window, c.Row.Group}
		if !c.Gone {
			is[at] = c.Row.Value
		} else if _, there := is[at]; there {
			delete(is, at)
		} else {
			return nil, api.ErrNone
		}
	}
	var made []api.Row
	for _, at := range inOrder(slices.Collect(maps.Keys(is))) {
		made = append(made, api.Row{Window: at.window, Group: at.group, Value: is[at]})
	}
	return made, api.OK
}

// wantText is what Text must answer, byte by byte.
func wantText(l []api.Change) string {
	if len(l) == 0 {
		return "-"
	}
	var b []byte
	for _, c := range l {
		b = append(b, ';')
		if c.Gone {
			b = append(b, '!')
		}
		b = append(b, big.NewInt(c.Row.Window).String()+"|"+c.Row.Group...)
		if !c.Gone {
			b = append(b, "|"+big.NewInt(c.Row.Value.N).String()...)
		}
		if !c.Gone && c.Row.Value.Over {
			b = append(b, '!')
		}
	}
	return string(b[1:])
}

// wantChange is what one change's text must be read as.
func wantChange(s string) (api.Change, api.Errno) {
	if s == "" || s == "-" {
		return api.Change{}, api.ErrForm
	}
	if s[0] != '!' {
		l, e := row.Parse(s)
		if e != api.OK {
			return api.Change{}, e
		}
		return comes(l[0]), api.OK
	}
	if strings.Count(s, "|") != 1 {
		return api.Change{}, api.ErrForm
	}
	window, group, _ := strings.Cut(s[1:], "|")
	n, e := sat.Read(window)
	if e != api.OK {
		return api.Change{}, e
	}
	tags, e := tag.Parse(group)
	if e != api.OK {
		return api.Change{}, e
	}
	if tag.Text(tags) != group {
		return api.Change{}, api.ErrForm
	}
	return goes(n, group), api.OK
}

// wantParse is what Parse must answer.
func wantParse(s string) ([]api.Change, api.Errno) {
	if s == "-" {
		return nil, api.OK
	}
	var l []api.Change
	for part := range strings.SplitSeq(s, ";") {
		c, e := wantChange(part)
		if e != api.OK {
			return nil, e
		}
		l = append(l, c)
	}
	if !wantOrdered(l) {
		return nil, api.ErrOrder
	}
	return l, api.OK
}

// equal: one by one; a list of nothing is one of nothing, nil or empty.
func equal[T comparable](a, b []T) bool {
	if len(a) != len(b) {
		return false
	}
	for i := range a {
		if a[i] != b[i] {
			return false
		}
	}
	return true
}

// checkOf holds Of against what is wanted, its changes against both lists, and what was handed in against what it was.
func checkOf(t *testing.T, a, b []api.Row, want []api.Change, e api.Errno) {
	t.Helper()
	aWas, bWas := slices.Clone(a), slices.Clone(b)
	l, f := Of(a, b)
	if f != e || !equal(l, want) {
		t.Errorf("Of(%v, %v) = %v, %d, want %v, %d", a, b, l, f, want, e)
	}
	if f == api.OK {
		if made, g := Apply(a, l...); g != api.OK || !equal(made, b) {
			t.Errorf("Apply(%v, %v) = %v, %d, want %v", a, l, made, g, b)
		}
		if (len(l) == 0) != equal(a, b) {
			t.Errorf("Of(%v, %v) = %v", a, b, l)
		}
		checkText(t, l, true, wantText(l))
	}
	if !equal(a, aWas) || !equal(b, bWas) {
		t.Errorf("%v and %v became %v and %v", aWas, bWas, a, b)
	}
}

// checkApply holds Apply against what is wanted; what it makes is in order.
func checkApply(t *testing.T, l []api.Row, changes []api.Change, want []api.Row, e api.Errno) {
	t.Helper()
	was, changesWere := slices.Clone(l), slices.Clone(changes)
	made, f := Apply(l, changes...)
	if f != e || !equal(made, want) {
		t.Errorf("Apply(%v, %v) = %v, %d, want %v, %d", l, changes, made, f, want, e)
	}
	if f == api.OK && !row.Right(made) {
		t.Errorf("Apply(%v, %v) = %v: not in order", l, changes, made)
	}
	if !equal(l, was) || !equal(changes, changesWere) {
		t.Errorf("%v and %v became %v and %v", was, changesWere, l, changes)
	}
}

// checkText holds Text against what is wanted; changes in order come back from it.
func checkText(t *testing.T, l []api.Change, ordered bool, text string) {
	t.Helper()
	was := slices.Clone(l)
	if got := Text(l); got != text {
		t.Errorf("Text(%v) = %q, want %q", l, got, text)
	}
	if again, e := Parse(Text(l)); ordered && (e != api.OK || !equal(again, l)) {
		t.Errorf("Parse(%q) = %v, %d, want %v", Text(l), again, e, l)
	}
	if !equal(l, was) {
		t.Errorf("%v became %v", was, l)
	}
}

// checkParse holds Parse against what is wanted, and what it answers against its own text.
func checkParse(t *testing.T, s string, want []api.Change, e api.Errno) {
	t.Helper()
	l, f := Parse(s)
	if f != e || !equal(l, want) {
		t.Errorf("Parse(%q) = %v, %d, want %v, %d", s, l, f, want, e)
	}
	if f == api.OK && Text(l) != s {
		t.Errorf("Parse(%q) = %v: its text is %q", s, l, Text(l))
	}
}

// P9.1, P9.2: Of, by hand, and Apply of what it answers.
func TestOf(t *testing.T) {
	for _, x := range [][3]string{
		{"3||5;4||7", "4||8;5||1", "!3|;4||8;5||1"},
		// no rows on either side, on both
		{"-", "-", "-"},
		{"-", "3||5", "3||5"},
		{"3||5", "-", "!3|"},
		{"-", "3||0;3|a=1|5!;4||6", "3||0;3|a=1|5!;4||6"},
		{"3||0;3|a=1|5!;4||6", "-", "!3|;!3|a=1;!4|"},
		// all stay
		{"3||5", "3||5", "-"},
		{"3||5;3|a=1|6!;4||7", "3||5;3|a=1|6!;4||7", "-"},
		// one comes: at the beginning, in the middle, at the end
		{"2||2;4||4", "1||1;2||2;4||4", "1||1"},
		{"2||2;4||4", "2||2;3||3;4||4", "3||3"},
		{"2||2;4||4", "2||2;4||4;5||5", "5||5"},
		// one goes: there
		{"1||1;2||2;3||3", "2||2;3||3", "!1|"},
		{"1||1;2||2;3||3", "1||1;3||3", "!2|"},
		{"1||1;2||2;3||3", "1||1;2||2", "!3|"},
		// one has another Value: there
		{"1||1;2||2;3||3", "1||9;2||2;3||3", "1||9"},
		{"1||1;2||2;3||3", "1||1;2||9;3||3", "2||9"},
		{"1||1;2||2;3||3", "1||1;2||2;3||9", "3||9"},
		// several at a time
		{"1||1;2||2;3||3", "1||4;2||5;3||6", "1||4;2||5;3||6"},
		{"1||1;3||3", "2||2;4||4", "!1|;2||2;!3|;4||4"},
		{"1||1;2||2", "3||3;4||4", "!1|;!2|;3||3;4||4"},
		{"3||3;4||4", "1||1;2||2", "1||1;2||2;!3|;!4|"},
		{"1||1;2||2;3||3;4||4", "0||0;2||2;3||9;5||5", "0||0;!1|;3||9;!4|;5||5"},
		// alike in Window, unlike in Group; alike in Group, unlike in Window
		{"1||5", "1|a=1|5", "!1|;1|a=1|5"},
		{"1|a=1|5", "1||5", "1||5;!1|a=1"},
		{"1|a=1|5", "1|a=2|5", "!1|a=1;1|a=2|5"},
		{"1|a=2|5", "1|a=10|5", "1|a=10|5;!1|a=2"},
		{"1|a=1|5", "1|a=1,b=2|5", "!1|a=1;1|a=1,b=2|5"},
		{"1|a=1|5", "1|a1=1|5", "1|a1=1|5;!1|a=1"},
		{"1|a=1|5;1|b=1|6", "1|a=1|5;1|a=2|6;1|b=1|7", "1|a=2|6;1|b=1|7"},
		{"1|a=1|5", "2|a=1|5", "!1|a=1;2|a=1|5"},
		{"1|b=1|5", "2|a=1|5", "!1|b=1;2|a=1|5"},
		{"2|a=1|5", "1|b=1|5", "1|b=1|5;!2|a=1"},
		{"-10||5", "-9||5", "!-10|;-9||5"},
		{"10||5", "9||5", "9||5;!10|"},
		// Values that differ in their sign, in Over alone, about 0
		{"1||5", "1||-5", "1||-5"},
		{"1||5", "1||5!", "1||5!"},
		{"1||5!", "1||5", "1||5"},
		{"1||5!", "1||5!", "-"},
		{"1||0", "1||0!", "1||0!"},
		{"1||0!", "1||0", "1||0"},
		{"1||5", "1||0", "1||0"},
		{"1||0", "1||5", "1||5"},
		{"1||0", "-", "!1|"},
		{"-", "1||0", "1||0"},
		{"1||0", "1||0", "-"},
		{"1||5", "1||4294967301", "1||4294967301"},
		// at both ends
		{"-9223372036854775808||1", "9223372036854775807||1", "!-9223372036854775808|;9223372036854775807||1"},
		{"9223372036854775807||1", "-9223372036854775808||1", "-9223372036854775808||1;!9223372036854775807|"},
		{"1||9223372036854775807", "1||-9223372036854775808", "1||-9223372036854775808"},
		{"1||9223372036854775807", "1||9223372036854775807!", "1||9223372036854775807!"},
	} {
		a, b := rows(t, x[0]), rows(t, x[1])
		want, e := Parse(x[2])
		if got := wantText(want); e != api.OK || got != x[2] {
			t.Errorf("Parse(%q) is %q, %d", x[2], got, e)
		}
		l, e := Of(a, b)
		if got := wantText(l); e != api.OK || got != x[2] {
			t.Errorf("from %q to %q: %q, %d, want %q", x[0], x[1], got, e, x[2])
		}
		checkOf(t, a, b, want, api.OK)
		if back, _ := wantOf(b, a); len(back) != len(want) {
			t.Errorf("from %q back to %q: %v", x[1], x[0], back)
		} else {
			checkOf(t, b, a, back, api.OK)
		}
	}
}

// P9.1: a row that goes has the Value 0, whatever it had.
func TestGoneHasNoValue(t *testing.T) {
	for _, r := range []api.Row{some(1, "", 5), some(1, "a=1", low), over(1, "a=1,b=2", top), over(1, "", 0), some(1, "", 0)} {
		checkOf(t, []api.Row{r}, nil, all(goes(1, r.Group)), api.OK)
		checkOf(t, []api.Row{r}, []api.Row{some(2, "", 7)}, all(goes(1, r.Group), comes(some(2, "", 7))), api.OK)
	}
}

// notInOrder are rows that aren't, each for another reason.
func notInOrder() [][]api.Row {
	l := [][]api.Row{
		{some(2, "", 1), some(1, "", 2)},
		{some(1, "", 1), some(1, "", 1)},
		{some(1, "", 1), some(1, "", 2)},
		{some(1, "a=1", 1), over(1, "a=1", 1)},
		{some(1, "a=1", 1), some(1, "", 1)},
		{some(1, "a=2", 1), some(1, "a=10", 1)},
		{some(1, "", 1), some(2, "", 1), some(4, "", 1), some(3, "", 1)},
		{some(1, "", 1), some(2, "", 1), some(1, "", 1)},
		{some(top, "", 1), some(low, "", 1)},
	}
	for _, group := range []string{"?", "a", "-", " ", "a=", "=1", ",", "a=1,", "A=1", "a=1 ", "b=1,a=2", "a=1,a=2", "a=1,b=2,c=3,d=4,e=5", "abcdefghijklm=1", "a=1|", "a=1;b=2", "\xff"} {
		l = append(l, []api.Row{some(1, group, 1)}, []api.Row{some(0, "", 1), some(1, group, 1), some(2, "", 1)})
	}
	return l
}

// P9.1: Of, of rows that aren't in order on either side, on both.
func TestOfNotInOrder(t *testing.T) {
	right := [][]api.Row{nil, {}, {some(1, "", 1)}, {some(1, "", 1), some(2, "a=1", 1)}}
	for _, wrong := range notInOrder() {
		for _, a := range right {
			checkOf(t, a, wrong, nil, api.ErrOrder)
			checkOf(t, wrong, a, nil, api.ErrOrder)
		}
		checkOf(t, wrong, wrong, nil, api.ErrOrder)
		checkOf(t, wrong, slices.Clone(wrong), nil, api.ErrOrder)
	}
}

// P9.1: Apply, by hand.
func TestApply(t *testing.T) {
	for _, x := range [][3]string{
		{"-", "-", "-"},
		{"1||1;2||2", "-", "1||1;2||2"},
		{"-", "1||1;2||2!", "1||1;2||2!"},
		{"1||1;2||2;3||3", "0||9", "0||9;1||1;2||2;3||3"},
		{"1||1;2||2;3||3", "1|a=1|9", "1||1;1|a=1|9;2||2;3||3"},
		{"1||1;2||2;3||3", "4||9", "1||1;2||2;3||3;4||9"},
		{"1||1;2||2;3||3", "1||9", "1||9;2||2;3||3"},
		{"1||1;2||2;3||3", "2||9", "1||1;2||9;3||3"},
		{"1||1;2||2;3||3", "3||9!", "1||1;2||2;3||9!"},
		{"1||1;2||2;3||3", "!1|", "2||2;3||3"},
		{"1||1;2||2;3||3", "!2|", "1||1;3||3"},
		{"1||1;2||2;3||3", "!3|", "1||1;2||2"},
		{"1||1;2||2;3||3", "!1|;!2|;!3|", "-"},
		{"1||1;2||2;3||3", "!1|;2||9;!3|;4||4", "2||9;4||4"},
		{"1||1;2||2;3||3", "0||0;!2|;3||9;5||5", "0||0;1||1;3||9;5||5"},
		// what a row has already changes nothing
		{"1||1;2||2", "1||1", "1||1;2||2"},
		{"1||1;2||2!", "1||1;2||2!", "1||1;2||2!"},
		// groups of one window
		{"1||1;1|a=1|2;1|a=2|3", "!1|a=1", "1||1;1|a=2|3"},
		{"1||1;1|a=1|2;1|a=2|3", "!1|;1|a=10|7;!1|a=2", "1|a=1|2;1|a=10|7"},
		{"1|a=1|2", "1||2;!1|a=1", "1||2"},
		{"1||0;2||0!", "!1|;!2|", "-"},
		{"-9223372036854775808||1;9223372036854775807||1", "!-9223372036854775808|;9223372036854775807||2", "9223372036854775807||2"},
	} {
		l, changes := rows(t, x[0]), all()
		if want, e := wantParse(x[1]); e == api.OK {
			changes = want
		} else {
			t.Fatalf("%q are no changes", x[1])
		}
		made, e := Apply(l, changes...)
		if got := row.Text(made); e != api.OK || got != x[2] {
			t.Errorf("%q applied to %q: %q, %d, want %q", x[1], x[0], got, e, x[2])
		}
		checkApply(t, l, changes, rows(t, x[2]), api.OK)
	}
	if made, e := Apply(nil); e != api.OK || len(made) != 0 {
		t.Errorf("Apply(nil) = %v, %d", made, e)
	}
}

// P9.1: Apply, of rows, of changes, of both that aren't in order; that comes ahead of a row that there isn't.
func TestApplyNotInOrder(t *testing.T) {
	l := rows(t, "1||1;2||2;2|a=1|3;3||4")
	none := goes(9, "")
	for _, wrong := range notInOrder() {
		var changes []api.Change
		for _, r := range wrong {
			changes = append(changes, comes(r))
		}
		checkApply(t, wrong, nil, nil, api.ErrOrder)
		checkApply(t, wrong, all(comes(some(1, "", 1))), nil, api.ErrOrder)
		checkApply(t, wrong, all(none), nil, api.ErrOrder)
		checkApply(t, wrong, changes, nil, api.ErrOrder)
		checkApply(t, l, changes, nil, api.ErrOrder)
		checkApply(t, nil, changes, nil, api.ErrOrder)
		checkApply(t, l, append(all(goes(-9, "")), changes...), nil, api.ErrOrder)
		checkApply(t, l, append(changes, none), nil, api.ErrOrder)
	}
	for _, changes := range [][]api.Change{
		// two of one place
		all(goes(1, ""), goes(1, "")), all(goes(1, ""), comes(some(1, "", 5))), all(comes(some(1, "", 5)), goes(1, "")), all(comes(some(1, "", 5)), comes(some(1, "", 5))), all(comes(some(1, "", 5)), comes(over(1, "", 5))),
		// places that fall
		all(goes(2, ""), goes(1, "")), all(comes(some(2, "", 5)), goes(1, "")), all(goes(2, ""), comes(some(1, "", 5))), all(goes(2, "a=1"), goes(2, "")), all(goes(1, ""), goes(3, ""), goes(2, "")),
		// one that is Gone and has a Value, be it only that it ran over
		all(api.Change{Row: some(1, "", 1), Gone: true}), all(api.Change{Row: some(1, "", -1), Gone: true}), all(api.Change{Row: over(1, "", 0), Gone: true}), all(api.Change{Row: over(1, "", 1), Gone: true}), all(api.Change{Row: some(1, "", 1<<32), Gone: true}),
		all(goes(1, ""), api.Change{Row: some(2, "", 2), Gone: true}), all(api.Change{Row: some(1, "", 1), Gone: true}, goes(2, "")), all(comes(some(1, "", 5)), api.Change{Row: over(2, "", 0), Gone: true}, comes(some(3, "", 5))),
		// one that is Gone, of a Group that is none
		all(goes(1, "?")), all(goes(1, "b=1,a=2")), all(goes(1, "a=1,a=2")), all(goes(1, ""), goes(2, "a")), all(goes(1, "-"), goes(2, "")),
		// the order ahead of a row that there isn't, wherever either stands
		all(none, goes(1, "")), all(goes(0, ""), goes(2, ""), goes(1, "")), all(goes(2, ""), goes(1, ""), none), all(none, none), all(goes(0, ""), api.Change{Row: some(1, "", 1), Gone: true}), all(api.Change{Row: some(9, "", 1), Gone: true}), all(goes(0, ""), comes(some(1, "?", 1))),
	} {
		checkApply(t, l, changes, nil, api.ErrOrder)
		checkApply(t, nil, changes, nil, api.ErrOrder)
	}
}

// P9.1: Apply, of changes that are Gone of which there is no row.
func TestApplyNone(t *testing.T) {
	l := rows(t, "1||1;2||2;2|a=1|3;4||4")
	for _, changes := range [][]api.Change{
		all(goes(0, "")), all(goes(3, "")), all(goes(5, "")), all(goes(-1, "")), all(goes(low, "")), all(goes(top, "")),
		all(goes(1, "a=1")), all(goes(2, "a=2")), all(goes(2, "a=10")), all(goes(2, "a=1,b=2")), all(goes(4, "b=1")),
		all(goes(1, ""), goes(3, "")), all(goes(0, ""), goes(1, "")), all(goes(1, ""), goes(2, ""), goes(2, "a=1"), goes(4, ""), goes(5, "")),
		all(comes(some(0, "", 5)), goes(3, "")), all(goes(3, ""), comes(some(9, "", 5))), all(comes(some(2, "", 5)), goes(2, "a=2"), comes(some(4, "", 5))),
	} {
		checkApply(t, l, changes, nil, api.ErrNone)
	}
	checkApply(t, nil, all(goes(0, "")), nil, api.ErrNone)
	checkApply(t, []api.Row{}, all(comes(some(0, "", 5)), goes(1, "")), nil, api.ErrNone)
}

// P9.1, P9.2: Text, by hand, of changes in order; they come back from it.
func TestText(t *testing.T) {
	for _, x := range []struct {
		l    []api.Change
		text string
	}{
		{nil, "-"},
		{all(), "-"},
		{[]api.Change{}, "-"},
		{all(api.Change{}), "0||0"},
		{all(goes(0, "")), "!0|"},
		{all(goes(3, "")), "!3|"},
		{all(goes(-3, "a=1,b=2")), "!-3|a=1,b=2"},
		{all(comes(some(3, "", 5))), "3||5"},
		{all(comes(over(3, "a=1", -5))), "3|a=1|-5!"},
		{all(goes(3, ""), comes(some(4, "", 8)), comes(some(5, "", 1))), "!3|;4||8;5||1"},
		{all(comes(some(3, "", 0)), goes(3, "a=1"), comes(over(3, "a=2", 0)), goes(4, "")), "3||0;!3|a=1;3|a=2|0!;!4|"},
		{all(goes(low, ""), comes(some(low, "a=1", low)), comes(over(top, "", top)), goes(top, "a=1")), "!-9223372036854775808|;-9223372036854775808|a=1|-9223372036854775808;9223372036854775807||9223372036854775807!;!9223372036854775807|a=1"},
		{all(goes(1, "abcdefghijkl=0123456789.-"), goes(1, "b=1,c=2,d=3,e=4")), "!1|abcdefghijkl=0123456789.-;!1|b=1,c=2,d=3,e=4"},
		{all(goes(-10, ""), goes(-9, ""), goes(9, ""), goes(10, "")), "!-10|;!-9|;!9|;!10|"},
	} {
		if !wantOrdered(x.l) || wantText(x.l) != x.text {
			t.Errorf("%v: in order? %v; the text is %q", x.l, wantOrdered(x.l), wantText(x.l))
		}
		checkText(t, x.l, true, x.text)
		checkParse(t, x.text, x.l, api.OK)
	}
}

// P9.1: Text, by hand, of any changes.
func TestTextOfAny(t *testing.T) {
	for _, x := range []struct {
		l    []api.Change
		text string
	}{
		// what one that is Gone has as a Value isn't told
		{all(api.Change{Row: some(3, "", 5), Gone: true}), "!3|"},
		{all(api.Change{Row: over(3, "a=1", 0), Gone: true}), "!3|a=1"},
		{all(api.Change{Row: over(3, "", -5), Gone: true}, comes(some(4, "", 5))), "!3|;4||5"},
		// out of order, twice
		{all(goes(3, ""), goes(3, "")), "!3|;!3|"},
		{all(comes(some(3, "", 5)), goes(3, "")), "3||5;!3|"},
		{all(goes(4, ""), comes(some(3, "a=1", 5)), goes(3, "")), "!4|;3|a=1|5;!3|"},
		// Groups that are none
		{all(goes(-2, "?")), "!-2|?"},
		{all(goes(3, "b=1,a=2")), "!3|b=1,a=2"},
		{all(goes(3, "|0"), comes(some(3, "|0", 0))), "!3||0;3||0|0"},
		{all(goes(3, "-"), goes(3, "!"), goes(3, ";"), goes(3, "!3|")), "!3|-;!3|!;!3|;;!3|!3|"},
		{all(comes(some(3, "?", 5)), comes(over(3, "\xff\x00", 5))), "3|?|5;3|\xff\x00|5!"},
	} {
		checkText(t, x.l, false, x.text)
	}
}

// P9.1: Parse, by hand: what isn't of the form as a whole, and a - where it may not be.
func TestParseForm(t *testing.T) {
	checkParse(t, "-", nil, api.OK)
	for _, s := range []string{
		"", " ", "--", "- ", " -", "-;", ";-", "-;-", "-;3||5", "3||5;-", "3||5;-;4||6", "-;!3|", "!3|;-", "!3|;-;!4|", "!-", "-!", "!-;3||5", "-!3|", "!-|", "!-|-", "-|", "-||",
		";", ";;", "3||5;", ";3||5", "3||5;;4||6", "!3|;", ";!3|", "!3|;;!4|", "!3|;;4||6", ";!3|;4||6", "!3|;4||6;", "!3|,!4|", "!3|\n!4|", "!3|; !4|", "!3| ;!4|", " !3|",
		"!", "!!", "!;!", "!;3||5", "3||5;!", "! ", "!3", "!3|;!4", "!3;|", "!|", "!||", "!|a=1", "!a=1", "!3||", "!3||5", "!3|a=1|", "!3|a=1|5", "!3||0", "!3|a=1|0", "!3|||", "!3|a=1|b=2", "!|3|", "!3|a=1||5", "!3||5|6",
		"!!3|", "!!3||5", "! 3|", "!3 |", "!3!|", "!3|!", "!3|a=1!", "3!|", "3|", "3|a=1", "3!||5", "3||!5", "!!3|a=1", "+3|", "~3|", "\x00", "\xff", "\xff!3|", "none",
	} {
		checkParse(t, s, nil, api.ErrForm)
	}
}

// among is one change's text, alone and where others stand about it, in order and not.
func among(one string) []string {
	return []string{one, "3||5;" + one, "!3|;" + one, one + ";4||6", one + ";!4|", "!3|;" + one + ";4||6", "4||6;!3|;" + one, one + ";!4|;3||5", "!3|;" + one + ";!3|"}
}

// P9.1: Parse, by hand: each error of each part; what is wrong in a change is told wherever it stands, ahead of an order that is wrong.
func TestParseParts(t *testing.T) {
	check := func(one string, e api.Errno) {
		t.Helper()
		for _, s := range among(one) {
			checkParse(t, s, nil, e)
		}
	}
	for s, e := range map[string]api.Errno{
		"": api.ErrForm, "-": api.ErrForm, "+3": api.ErrForm, "03": api.ErrForm, "-03": api.ErrForm, "-0": api.ErrForm, "00": api.ErrForm, " 3": api.ErrForm, "3 ": api.ErrForm, "3a": api.ErrForm, "a": api.ErrForm, "3.0": api.ErrForm, "0x3": api.ErrForm, "1_0": api.ErrForm, "--3": api.ErrForm, "3\n": api.ErrForm, "!": api.ErrForm, "!3": api.ErrForm, "3!": api.ErrForm, "0" + wide: api.ErrForm, wide + "a": api.ErrForm, wide + "!": api.ErrForm, "a=1": api.ErrForm, "\xff": api.ErrForm,
		"9223372036854775808": api.ErrRange, "-9223372036854775809": api.ErrRange, wide: api.ErrRange, "-" + wide: api.ErrRange, "18446744073709551616": api.ErrRange,
	} {
		check("!"+s+"|", e)
		check("!"+s+"|a=1", e)
		if !strings.HasPrefix(s, "!") { // such a one would be Gone
			check(s+"||5", e)
		}
	}
	for s, e := range map[string]api.Errno{"": api.ErrForm, "-": api.ErrForm, "05": api.ErrForm, "-0": api.ErrForm, "!": api.ErrForm, "!5": api.ErrForm, "5!!": api.ErrForm, "a=1": api.ErrForm, wide + "a": api.ErrForm, wide: api.ErrRange, wide + "!": api.ErrRange, "-9223372036854775809": api.ErrRange} {
		check("3||"+s, e)
		check("3|a=1|"+s, e)
	}
	for s, e := range map[string]api.Errno{
		"a": api.ErrForm, "-": api.ErrForm, " ": api.ErrForm, "a=": api.ErrForm, "=1": api.ErrForm, "=": api.ErrForm, ",": api.ErrForm, "a=1,": api.ErrForm, ",a=1": api.ErrForm, "a=1,,b=2": api.ErrForm, "A=1": api.ErrForm, "a=A": api.ErrForm, "a==1": api.ErrForm, "{a=1}": api.ErrForm, "a=1 ": api.ErrForm, " a=1": api.ErrForm, "abcdefghijklm=1": api.ErrForm, "a=0123456789.-_": api.ErrForm, "a=1,b": api.ErrForm, "0": api.ErrForm, "5!": api.ErrForm,
		"a=1,b=2,c=3,d=4,e=5": api.ErrMany, "e=1,d=2,c=3,b=4,a=5": api.ErrMany, "a=1,a=1,a=1,a=1,a=1": api.ErrMany,
		"a=1,a=1": api.ErrTwice, "a=1,a=2": api.ErrTwice, "a=2,b=1,a=1": api.ErrTwice, "b=1,a=1,b=2": api.ErrTwice, "d=1,c=1,b=1,b=1": api.ErrTwice,
		"a=1,b=2,c=3,d=4,E=5": api.ErrForm, "a=1,b=2,c=3,d=4,": api.ErrForm, "a=1,a=1,b": api.ErrForm,
		// tags that are right, in another order than theirs
		"b=1,a=2": api.ErrForm, "a=1,c=3,b=2": api.ErrForm, "d=4,c=3,b=2,a=1": api.ErrForm, "a1=1,a=1": api.ErrForm, "b=2,a=1,c=3,d=4": api.ErrForm,
	} {
		check("!3|"+s, e)
		check("!-9223372036854775808|"+s, e)
		check("3|"+s+"|5", e)
		check("3|"+s+"|5!", e)
	}
}

// P9.1: Parse, by hand: where several errors apply, the first one that is named tells, change by change, and the order behind all.
func TestParseFirstError(t *testing.T) {
	for s, e := range map[string]api.Errno{
		// two parts ahead of what is wrong in one
		"!" + wide: api.ErrForm, "!" + wide + "||": api.ErrForm, "!" + wide + "||5": api.ErrForm, "!3|a=1,a=2|": api.ErrForm, "!3|a=1,a=2|5": api.ErrForm, "!3|a=1,b=2,c=3,d=4,e=5|0": api.ErrForm, "!" + wide + "|a=1,a=2|": api.ErrForm, "!a=1,a=2": api.ErrForm,
		// the first part ahead of the second one
		"!" + wide + "|a": api.ErrRange, "!" + wide + "|a=1,a=2": api.ErrRange, "!" + wide + "|b=1,a=2": api.ErrRange, "!" + wide + "|a=1,b=2,c=3,d=4,e=5": api.ErrRange, "!03|a=1,a=2": api.ErrForm, "!x|a=1,b=2,c=3,d=4,e=5": api.ErrForm, "!|a=1,a=2": api.ErrForm,
		// a row's own
		wide + "|": api.ErrForm, wide + "||": api.ErrRange, wide + "|a|x": api.ErrRange, "x||" + wide: api.ErrForm, "3|a|" + wide: api.ErrForm, "3|a=1,a=2|x": api.ErrTwice, "3|b=1,a=2|" + wide: api.ErrForm, "3||" + wide: api.ErrRange,
		// one change ahead of the next one
		"!" + wide + "|;!x|": api.ErrRange, "!x|;!" + wide + "|": api.ErrForm, "!" + wide + "|;": api.ErrRange, ";!" + wide + "|": api.ErrForm, "-;!" + wide + "|": api.ErrForm, "!" + wide + "|;-": api.ErrRange, "!;!" + wide + "|": api.ErrForm, "!3|a=1,a=2;!": api.ErrTwice, "!3|b=1,a=2;!4|a=1,a=2": api.ErrForm, "!3|a=1,a=2;!4|b=1,a=2": api.ErrTwice, "!3|a=1,b=2,c=3,d=4,e=5;4||" + wide: api.ErrMany, "4||" + wide + ";!5|a=1,a=2": api.ErrRange, "!3|;!" + wide + "|;x": api.ErrRange, "!3|;4||5|;!" + wide + "|": api.ErrForm,
		// all of them ahead of the order
		"!3|;!3|;!": api.ErrForm, "!3|;!2|;!" + wide + "|": api.ErrRange, "!3|;2||" + wide: api.ErrRange, "!3|;!2|a=1,a=2": api.ErrTwice, "!3|;!2|b=1,a=2": api.ErrForm, "!3|a=2;!3|a=1;!3|a=1,b=2,c=3,d=4,e=5": api.ErrMany, "!3|;!2": api.ErrForm, "!3|;!2|;": api.ErrForm, "3||5;!3|;-": api.ErrForm, "3||5;!2||0": api.ErrForm,
	} {
		checkParse(t, s, nil, e)
	}
	for _, s := range []string{
		"!3|;!3|", "!3|;3||5", "3||5;!3|", "3||5;3||5", "3||5;3||6", "!3|;3||0", "3||0;!3|", "!4|;!3|", "!4|;3||5", "4||5;!3|", "4||5;3||5", "!3|a=1;!3|", "!3|a=2;!3|a=10", "!3|a=1;!3|a1=1", "3|a=1|5;!3|", "!10|;!9|", "!-9|;!-10|", "!9223372036854775807|;!-9223372036854775808|", "!1|;!2|;!3|;3||3", "!2|;1||1;!3|", "!1|;2||2;!1|",
	} {
		checkParse(t, s, nil, api.ErrOrder)
	}
}

// P9.1: Same, of each two of these: they differ in one part alone, in how many they are, in their order.
func TestSame(t *testing.T) {
	a, b := comes(some(3, "a=1", 5)), goes(4, "")
	several := [][]api.Change{
		nil, {{}}, {{}, {}}, {{Gone: true}},
		{a}, {b}, {a, b}, {b, a}, {a, a}, {b, b}, {a, b, b}, {a, a, b}, {a, b, {}}, {{}, a, b},
		{comes(some(2, "a=1", 5)), b}, {comes(some(-3, "a=1", 5)), b}, {comes(some(3+1<<32, "a=1", 5)), b}, {comes(some(3, "a=2", 5)), b}, {comes(some(3, "", 5)), b}, {comes(some(3, "a=1", 6)), b}, {comes(some(3, "a=1", 5+1<<32)), b}, {comes(over(3, "a=1", 5)), b}, {{Row: some(3, "a=1", 5), Gone: true}, b},
		{a, goes(5, "")}, {a, goes(4, "a=1")}, {a, comes(some(4, "", 0))}, {a, {Row: some(4, "", 1), Gone: true}}, {a, {Row: over(4, "", 0), Gone: true}},
		{goes(4, ";!5|")}, {goes(4, ""), goes(5, "")}, // these have one text
	}
	for i, x := range several {
		for j, y := range several {
			if got := Same(x, slices.Clone(y)); got != (i == j) {
				t.Errorf("Same(%v, %v) = %v", x, y, got)
			}
		}
	}
	for _, x := range [][]api.Change{nil, {}, all(a, b)[:0]} {
		for _, y := range [][]api.Change{nil, {}, all(b)[:0]} {
			if !Same(x, y) {
				t.Errorf("Same(%#v, %#v) = false", x, y)
			}
		}
	}
}

// allAnswers are all rows that may stand at some places, each with one of some values, or not at all.
func allAnswers(places []place, sums []api.Sum) [][]api.Row {
	answers := [][]api.Row{nil}
	for _, at := range places {
		for _, l := range answers {
			for _, s := range sums {
				answers = append(answers, append(slices.Clone(l), api.Row{Window: at.window, Group: at.group, Value: s}))
			}
		}
	}
	return answers
}

// P9.1, P9.2: from each of some answers to each other one.
func TestFromEachToEach(t *testing.T) {
	answers := allAnswers([]place{{-1, "b=1"}, {0, ""}, {0, "a=1"}, {2, ""}}, []api.Sum{{}, {N: 5}, {N: 5, Over: true}})
	if len(answers) != 4*4*4*4 {
		t.Fatalf("there are %d answers", len(answers))
	}
	for _, a := range answers {
		for _, b := range answers {
			want, e := wantOf(a, b)
			checkOf(t, a, b, want, e)
		}
	}
}

// P9.2: changes from a to b, and from b to c, one behind the other, make c.
func TestOneBehindTheOther(t *testing.T) {
	answers := allAnswers([]place{{0, ""}, {0, "a=1"}, {2, ""}}, []api.Sum{{}, {N: 5}})
	for _, a := range answers {
		for _, b := range answers {
			first, e := Of(a, b)
			if e != api.OK {
				t.Fatalf("Of(%v, %v) tells %d", a, b, e)
			}
			for _, c := range answers {
				next, e := Of(b, c)
				between, f := Apply(a, first...)
				made, g := Apply(between, next...)
				if e != api.OK || f != api.OK || g != api.OK || !equal(made, c) {
					t.Errorf("from %v to %v to %v: %v, %d, %d, %d", a, b, c, made, e, f, g)
				}
			}
		}
	}
}

// P9.1, P9.2: all short lists of some changes, right and wrong: Text, Parse, and Apply to some rows.
func TestAllShortChanges(t *testing.T) {
	changes := all(goes(0, ""), comes(some(0, "", 0)), goes(0, "a=1"), comes(over(0, "a=1", 7)), goes(1, ""), comes(some(-1, "b=2", 5)), comes(some(1, "b=1,a=2", 5)), goes(1, "?"), api.Change{Row: some(1, "", 5), Gone: true}, api.Change{Row: over(1, "", 0), Gone: true})
	to := [][]api.Row{nil, {some(0, "", 0)}, {some(0, "", 3), some(1, "", 0)}, {some(-1, "b=2", 1), some(0, "a=1", 2), some(1, "", 3)}, {some(0, "", 1), over(0, "a=1", 7), some(5, "", 5)}, {some(1, "", 1), some(0, "", 1)}, {some(1, "?", 1)}}
	ordered := 0
	lists.EachShort(changes, 4, func(l []api.Change) {
		checkText(t, l, wantOrdered(l), wantText(l))
		want, e := wantParse(wantText(l))
		checkParse(t, wantText(l), want, e)
		for _, rows := range to {
			made, e := wantApply(rows, l)
			checkApply(t, rows, l, made, e)
		}
		if wantOrdered(l) {
			ordered++
		}
		if len(l) == 2 && Same(l[:1], l[1:]) != (l[0] == l[1]) {
			t.Errorf("Same(%v, %v) = %v", l[:1], l[1:], Same(l[:1], l[1:]))
		}
	})
	// of two places with two changes each, and of two with one: each of them, or none
	if want := 3 * 3 * 2 * 2; ordered != want {
		t.Errorf("%d are in order, want %d", ordered, want)
	}
}

// P9.1: all short lists of some rows on both sides, right and wrong.
func TestAllShortRows(t *testing.T) {
	var several [][]api.Row
	lists.EachShort([]api.Row{some(0, "", 5), over(0, "", 5), some(0, "a=1", 5), some(-1, "", 0), some(0, "a", 5), some(1, "b=1,a=2", 5)}, 3, func(l []api.Row) { several = append(several, l) })
	for _, a := range several {
		for _, b := range several {
			want, e := wantOf(a, b)
			checkOf(t, a, b, want, e)
		}
	}
}

// P9.1, P9.2: all short texts of pieces that matter, as they stand and about what is right.
func TestAllShortTexts(t *testing.T) {
	check := func(s string) {
		want, e := wantParse(s)
		checkParse(t, s, want, e)
	}
	lists.EachShort([]string{"3", "0", "-", "|", ";", "!", "a=1"}, 6, func(l []string) { check(strings.Join(l, "")) })
	lists.EachShort([]string{"!3|", "3||5", "!3|a=1", "2||0!", "!-1|b=2", "-", "", "!", "!3|b=1,a=1", "3|a=1,a=2|5", "!9223372036854775808|"}, 4, func(l []string) { check(strings.Join(l, ";")) })
	lists.EachShort([]string{"a=1", "b=2", "c=3", "d=4", "e=5", "a"}, 5, func(l []string) { check("!3|" + strings.Join(l, ",")) })
	lists.EachShort([]string{"!3", "", "3", "!03", "!9223372036854775808", "a=1", "b=2,a=1", "a=1,a=2", "5!"}, 4, func(l []string) { check(strings.Join(l, "|")) })
}

// P9.1, P9.2: many rows, of which some come, some go, some have another value, and most stay.
func TestMany(t *testing.T) {
	var a, b []api.Row
	for i := range int64(5000) {
		r := some(i/2-1000, []string{"", "a=1"}[i%2], -i)
		if i%7 != 0 {
			a = append(a, r)
		}
		if i%11 == 0 {
			r.Value.N++
		}
		if i%5 != 0 {
			b = append(b, r)
		}
	}
	want, e := wantOf(a, b)
	checkOf(t, a, b, want, e)
	checkOf(t, a, slices.Clone(a), nil, api.OK)
	s := wantText(want)
	checkParse(t, s, want, api.OK)
	checkParse(t, s+";", nil, api.ErrForm)
	checkParse(t, s+";"+s, nil, api.ErrOrder)
	checkParse(t, s+";!9999|", append(want, goes(9999, "")), api.OK)
	checkApply(t, a, append(want, goes(9999, "")), nil, api.ErrNone)
	checkParse(t, strings.Repeat("!", 5000), nil, api.ErrForm)
	checkParse(t, "!"+strings.Repeat("|", 5000), nil, api.ErrForm)
	checkParse(t, "!3|"+strings.Repeat("a=1,", 5000)+"a=1", nil, api.ErrMany)
	checkParse(t, "!"+strings.Repeat("9", 5000)+"|", nil, api.ErrRange)
}

// P9.1: what was handed in is as it was, its spare room too, and no answer shares memory with it.
func TestWhatIsHandedInStays(t *testing.T) {
	a := []api.Row{some(1, "", 1), some(2, "", 2), some(2, "a=1", 3), some(4, "", 4), some(9, "spare", 9), some(8, "room", 8)}
	b := []api.Row{some(0, "", 1), some(2, "", 5), over(2, "a=1", 3), some(4, "", 4), some(3, "spare", 9), some(1, "room", 8)}
	c := all(comes(some(0, "", 7)), goes(1, ""), comes(some(2, "a=1", 9)), goes(4, ""), goes(9, "spare"), comes(some(8, "room", 8)))
	aWas, bWas, cWas := slices.Clone(a), slices.Clone(b), slices.Clone(c)
	for i := range len(a) + 1 {
		for j := range len(b) + 1 {
			changes, _ := Of(a[:i], b[:j])
			made, _ := Apply(a[:i], c[:j]...)
			same, _ := Apply(b[:i])
			Text(c[:j])
			Same(c[:i], c[:j])
			clear(changes[:cap(changes)])
			clear(made[:cap(made)])
			clear(same[:cap(same)])
			if !slices.Equal(a, aWas) || !slices.Equal(b, bWas) || !slices.Equal(c, cWas) {
				t.Fatalf("behind calls with %d and %d there are %v, %v, %v", i, j, a, b, c)
			}
		}
	}
}

// P9.1: a call hangs on its arguments alone: who writes into an answer changes no later one.
func TestNothingIsKept(t *testing.T) {
	const s = "!3|;4||8;5||1"
	for range 3 {
		l, e := Parse(s)
		if e != api.OK || !equal(l, all(goes(3, ""), comes(some(4, "", 8)), comes(some(5, "", 1)))) {
			t.Fatalf("Parse(%q) = %v, %d", s, l, e)
		}
		made, e := Apply(rows(t, "3||5;4||7"), l...)
		if got := row.Text(made); e != api.OK || got != "4||8;5||1" {
			t.Fatalf("made are %q, %d", got, e)
		}
		clear(l[:cap(l)])
		clear(made[:cap(made)])
		l, e = Of(rows(t, "3||5;4||7"), rows(t, "4||8;5||1"))
		if got := wantText(l); e != api.OK || got != s {
			t.Fatalf("the changes are %q, %d", got, e)
		}
		clear(l[:cap(l)])
	}
}

// P9.1, P9.2: the same for whatever a fuzzer finds.
func FuzzTexts(f *testing.F) {
	for _, s := range []string{"", "-", "!", "!3|;4||8;5||1", "!-1|;0|a=1|-2;!0|a=2", "!3|b=1,a=2", "!3|;!3|", "3||5;", "!9223372036854775808|", "!3|a=1,b=2,c=3,d=4,e=5"} {
		f.Add(s, "3||5;4||7", "4||8;5||1!", "?", int64(3))
	}
	f.Fuzz(func(t *testing.T, s, from, to, group string, n int64) {
		want, e := wantParse(s)
		checkParse(t, s, want, e)
		a, _ := row.Parse(from)
		b, _ := row.Parse(to)
		between, e := wantOf(a, b)
		checkOf(t, a, b, between, e)
		made, e := wantApply(a, want)
		checkApply(t, a, want, made, e)
		mixed := append(want, api.Change{Row: some(n, group, n), Gone: n&1 == 0}, comes(over(n, group, -n)))
		checkText(t, mixed, wantOrdered(mixed), wantText(mixed))
		made, e = wantApply(b, mixed[:len(mixed)-1])
		checkApply(t, b, mixed[:len(mixed)-1], made, e)
		if Same(mixed, between) != equal(mixed, between) {
			t.Errorf("Same(%v, %v) = %v", mixed, between, Same(mixed, between))
		}
	})
}
