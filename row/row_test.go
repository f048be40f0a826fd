package row

import (
	"maps"
	"math"
	"math/big"
	"regexp"
	"slices"
	"strings"
	"testing"

	"ebbtide/api"
	"ebbtide/cell"
	"ebbtide/lists"
	"ebbtide/pick"
	"ebbtide/query"
)

const (
	top = math.MaxInt64
	low = math.MinInt64
)

// What a number, a tag and a series must look like, told by other means: patterns of bytes.
var (
	goodNumber = regexp.MustCompile(`\A(0|-?[1-9][0-9]*)\z`)
	goodTag    = regexp.MustCompile(`\A([a-z][a-z0-9_]{0,11})=([a-z0-9_.-]{1,12})\z`)
	goodKey    = regexp.MustCompile(`\A([a-z][a-z0-9_]{0,11})(?:\{([^{}]+)\})?\z`)
)

// A row, one whose value ran over, and a list of them.
func row(window int64, group string, n int64) api.Row {
	return api.Row{Window: window, Group: group, Value: api.Sum{N: n}}
}
func over(window int64, group string, n int64) api.Row {
	return api.Row{Window: window, Group: group, Value: api.Sum{N: n, Over: true}}
}
func all(l ...api.Row) []api.Row { return l }

// item is a series' window with these samples.
func item(window int64, key string, samples ...int64) api.Item {
	return api.Item{Window: window, Key: key, Cell: cell.Of(samples...)}
}

// counted is one of so many samples, all of them 0.
func counted(window int64, key string, count int64) api.Item {
	return api.Item{Window: window, Key: key, Cell: api.Cell{Count: count}}
}

// ask is a query that may be, by its text.
func ask(t *testing.T, s string) api.Query {
	t.Helper()
	q, e := query.Parse(s)
	if e != api.OK {
		t.Fatalf("%q is no query: %d", s, e)
	}
	return q
}

// wantNumber is what a number's text must be read as.
func wantNumber(s string) (int64, api.Errno) {
	if !goodNumber.MatchString(s) {
		return 0, api.ErrForm
	}
	n, _ := new(big.Int).SetString(s, 10)
	if !n.IsInt64() {
		return 0, api.ErrRange
	}
	return n.Int64(), api.OK
}

// wantTags is what a group must be read as.
func wantTags(s string) ([]api.Tag, api.Errno) {
	if s == "" {
		return nil, api.OK
	}
	var names, words []string
	for part := range strings.SplitSeq(s, ",") {
		found := goodTag.FindStringSubmatch(part)
		if found == nil {
			return nil, api.ErrForm
		}
		names, words = append(names, found[1]), append(words, found[1:]...)
	}
	sorted := slices.Sorted(slices.Values(names))
	switch {
	case len(names) > 4:
		return nil, api.ErrMany
	case len(slices.Compact(slices.Clone(sorted))) < len(names):
		return nil, api.ErrTwice
	case !slices.Equal(names, sorted):
		return nil, api.ErrForm
	}
	return lists.Tags(words...), api.OK
}

// wantRow is what one row's text must be read as.
func wantRow(s string) (api.Row, api.Errno) {
	if strings.Count(s, "|") != 2 {
		return api.Row{}, api.ErrForm
	}
	first, last := strings.Index(s, "|"), strings.LastIndex(s, "|")
	window, e := wantNumber(s[:first])
	if e != api.OK {
		return api.Row{}, e
	}
	if _, e := wantTags(s[first+1 : last]); e != api.OK {
		return api.Row{}, e
	}
	n, e := wantNumber(strings.TrimSuffix(s[last+1:], "!"))
	if e != api.OK {
		return api.Row{}, e
	}
	if strings.HasSuffix(s, "!") {
		return over(window, s[first+1:last], n), api.OK
	}
	return row(window, s[first+1:last], n), api.OK
}

// wantBefore is what Before must answer.
func wantBefore(a, b api.Row) bool {
	if a.Window != b.Window {
		return a.Window < b.Window
	}
	return a.Group < b.Group
}

// wantRising: each one ahead of all behind it.
func wantRising(l []api.Row) bool {
	for i, a := range l {
		for _, b := range l[i+1:] {
			if !wantBefore(a, b) {
				return false
			}
		}
	}
	return true
}

// wantRight is what Right must answer.
func wantRight(l []api.Row) bool {
	for _, r := range l {
		if _, e := wantTags(r.Group); e != api.OK {
			return false
		}
	}
	return wantRising(l)
}

// wantText is what Text must answer, byte by byte.
func wantText(l []api.Row) string {
	if len(l) == 0 {
		return "-"
	}
	var b []byte
	for _, r := range l {
		b = append(b, ";"+big.NewInt(r.Window).String()+"|"+r.Group+"|"+big.NewInt(r.Value.N).String()...)
		if r.Value.Over {
			b = append(b, '!')
		}
	}
	return string(b[1:])
}

// wantParse is what Parse must answer.
func wantParse(s string) ([]api.Row, api.Errno) {
	if s == "-" {
		return nil, api.OK
	}
	var l []api.Row
	for part := range strings.SplitSeq(s, ";") {
		r, e := wantRow(part)
		if e != api.OK {
			return nil, e
		}
		l = append(l, r)
	}
	if !wantRising(l) {
		return nil, api.ErrOrder
	}
	return l, api.OK
}

// wantGroup is the group that a query has of an item; there is none, if the item doesn't count.
func wantGroup(q api.Query, one api.Item) (string, bool) {
	found := goodKey.FindStringSubmatch(one.Key)
	if found == nil || found[1] != q.Name || one.Cell.Count < 1 {
		return "", false
	}
	tags, e := wantTags(found[2])
	if e != api.OK || !pick.Fits(tags, q.Match...) {
		return "", false
	}
	var parts []string
	for _, one := range tags {
		if slices.Contains(q.By, one.Name) {
			parts = append(parts, one.Name+"="+one.Value)
		}
	}
	return strings.Join(parts, ","), true
}

// wantAnswer is what Answer must answer, the long way: for each window, each group and each key there is, as they rise, all items are looked through.
func wantAnswer(q api.Query, items []api.Item) []api.Row {
	windows, groups, keys := map[int64]bool{}, map[string]bool{}, map[string]bool{}
	for _, one := range items {
		if group, there := wantGroup(q, one); there && query.Right(q) {
			windows[one.Window], groups[group], keys[one.Key] = true, true, true
		}
	}
	var l []api.Row
	for _, window := range slices.Sorted(maps.Keys(windows)) {
		for _, group := range slices.Sorted(maps.Keys(groups)) {
			var cells []api.Cell
			for _, key := range slices.Sorted(maps.Keys(keys)) {
				for _, one := range items {
					if g, there := wantGroup(q, one); there && one.Window == window && one.Key == key && g == group {
						cells = append(cells, one.Cell)
					}
				}
			}
			if len(cells) > 0 {
				l = append(l, api.Row{Window: window, Group: group, Value: cell.Value(cell.Merge(cells...), q.Agg)})
			}
		}
	}
	return l
}

// equal: one by one; a list of nothing is one of nothing, nil or empty.
func equal(a, b []api.Row) bool {
	if len(a) != len(b) {
		return false
	}
	for i := range a {
		if a[i] != b[i] {
			return false
		}
	}
	return true
}

// checkRows holds Right and Text of l against what is wanted; such as are in order come back from their text.
func checkRows(t *testing.T, l []api.Row, right bool, text string) {
	t.Helper()
	was := slices.Clone(l)
	if got := Right(l); got != right {
		t.Errorf("Right(%v) = %v", l, got)
	}
	if got := Text(l); got != text {
		t.Errorf("Text(%v) = %q, want %q", l, got, text)
	}
	if again, e := Parse(Text(l)); right && (e != api.OK || !equal(again, l)) {
		t.Errorf("Parse(%q) = %v, %d, want %v", Text(l), again, e, l)
	}
	if !equal(l, was) {
		t.Errorf("%v became %v", was, l)
	}
}

// checkParse holds Parse of s against what is wanted, and what it answers against its own text.
func checkParse(t *testing.T, s string, want []api.Row, e api.Errno) {
	t.Helper()
	l, f := Parse(s)
	if f != e || !equal(l, want) {
		t.Errorf("Parse(%q) = %v, %d, want %v, %d", s, l, f, want, e)
	}
	if f == api.OK && (!Right(l) || Text(l) != s) {
		t.Errorf("Parse(%q) = %v: in order? %v; its text is %q", s, l, Right(l), Text(l))
	}
}

// checkAnswer holds Answer against the rows' text that is wanted, and against the long way; an answer is in order, and comes back from its text.
func checkAnswer(t *testing.T, q api.Query, items []api.Item, text string) {
	t.Helper()
	was := slices.Clone(items)
	l := Answer(q, items...)
	if got := wantText(l); got != text {
		t.Errorf("Answer(%v, %v) is %q, want %q", q, items, got, text)
	}
	if want := wantAnswer(q, items); !equal(l, want) {
		t.Errorf("Answer(%v, %v) = %v, want %v", q, items, l, want)
	}
	checkRows(t, l, true, wantText(l))
	if !slices.Equal(items, was) {
		t.Errorf("%v became %v", was, items)
	}
}

// P8.1: Before, of each two of these, which rise.
func TestBefore(t *testing.T) {
	rising := all(
		row(low, "", 9), row(low, "b", 8), row(low+1, "a", 7),
		row(-10, "z", 6), row(-9, "", 5), row(-1, "", 4),
		row(0, "", 9), row(0, "\x00", 9), row(0, "A", 9), row(0, "_", 9), row(0, "a", 9), row(0, "a1=1", 9), row(0, "a=1", 9), row(0, "a=1,b=2", 9), row(0, "a=10", 9), row(0, "a=2", 9), row(0, "a_=1", 9), row(0, "b", 9), row(0, "é", 9), row(0, "\xff", 9), row(0, "\xff\xff", 9),
		row(1, "", 3), row(9, "", 2), row(10, "", 1), row(top-1, "z", 0), row(top, "", -1), row(top, "a", -2),
	)
	for i, a := range rising {
		for j, b := range rising {
			if got := Before(a, b); got != (i < j) {
				t.Errorf("Before(%v, %v) = %v", a, b, got)
			}
		}
	}
	// values don't count
	for _, a := range all(row(3, "a", 1), row(3, "a", 2), over(3, "a", 1), row(3, "a", low), over(3, "a", top)) {
		for _, b := range all(row(3, "a", 1), row(3, "a", 2), over(3, "a", 1), row(3, "a", low), over(3, "a", top)) {
			if Before(a, b) {
				t.Errorf("Before(%v, %v)", a, b)
			}
		}
		if b := row(3, "b", 1); !Before(a, b) || Before(b, a) {
			t.Errorf("%v and %v", a, b)
		}
	}
}

// P8.1: Same, of each two of these: they differ in one part alone, in how many they are, in their order.
func TestSame(t *testing.T) {
	a, b := row(3, "a=1", 5), over(4, "", 7)
	several := [][]api.Row{
		nil, {{}}, {{}, {}},
		{a}, {b}, {a, b}, {b, a}, {a, a}, {b, b}, {a, b, b}, {a, a, b}, {a, b, {}}, {{}, a, b},
		{row(2, "a=1", 5), b}, {row(-3, "a=1", 5), b}, {row(3, "a=2", 5), b}, {row(3, "", 5), b}, {row(3, "A=1", 5), b}, {row(3, "a=1", 6), b}, {row(3, "a=1", -5), b}, {over(3, "a=1", 5), b},
		{a, over(5, "", 7)}, {a, over(4, "a", 7)}, {a, over(4, "", 8)}, {a, row(4, "", 7)},
		{row(3+1<<32, "a=1", 5), b}, {row(3, "a=1", 5+1<<32), b},
		{over(3, "a=1|5;4|", 7)}, {row(3, "", 5), row(4, "", 7)}, {row(3, "|5;4|", 7)}, // these have texts that others have
	}
	for i, x := range several {
		for j, y := range several {
			if got := Same(x, slices.Clone(y)); got != (i == j) {
				t.Errorf("Same(%v, %v) = %v", x, y, got)
			}
		}
	}
	for _, x := range [][]api.Row{nil, {}, all(a, b)[:0]} {
		for _, y := range [][]api.Row{nil, {}, all(b)[:0]} {
			if !Same(x, y) {
				t.Errorf("Same(%#v, %#v) = false", x, y)
			}
		}
	}
}

// P8.1, P8.3: Right and Text, by hand, of rows in order; they come back from their text.
func TestRight(t *testing.T) {
	for _, x := range []struct {
		l    []api.Row
		text string
	}{
		{nil, "-"},
		{[]api.Row{}, "-"},
		{all(api.Row{}), "0||0"},
		{all(row(3, "a=1", 5), over(4, "", 7)), "3|a=1|5;4||7!"},
		{all(row(3, "", 5), row(3, "a=1", 5), row(3, "a=1,b=2", 5), row(3, "a=10", 5), row(3, "a=2", 5), row(3, "b=0", 5)), "3||5;3|a=1|5;3|a=1,b=2|5;3|a=10|5;3|a=2|5;3|b=0|5"},
		{all(row(3, "a1=1", 5), row(3, "a=1", 4), row(3, "a=1,a1=1", 3)), "3|a1=1|5;3|a=1|4;3|a=1,a1=1|3"},
		{all(row(3, "b=2", 9), row(4, "a=1", 8), row(5, "", 7)), "3|b=2|9;4|a=1|8;5||7"},
		{all(row(-10, "", 1), row(-9, "", 1), row(0, "", 1), row(9, "", 1), row(10, "", 1)), "-10||1;-9||1;0||1;9||1;10||1"},
		{all(row(low, "", low), row(low+1, "", low+1), row(0, "", 0), row(top-1, "", top-1), row(top, "", top)), "-9223372036854775808||-9223372036854775808;-9223372036854775807||-9223372036854775807;0||0;9223372036854775806||9223372036854775806;9223372036854775807||9223372036854775807"},
		{all(over(low, "", low), over(0, "", 0), over(1, "", -1), over(top, "", top)), "-9223372036854775808||-9223372036854775808!;0||0!;1||-1!;9223372036854775807||9223372036854775807!"},
		{all(row(1, "a=1,b=2,c=3,d=4", 5)), "1|a=1,b=2,c=3,d=4|5"},
		{all(row(1, "abcdefghijkl=0123456789.-", 5)), "1|abcdefghijkl=0123456789.-|5"},
		{all(row(1, "a=-", 5), row(1, "a=.", 5), row(1, "a=_", 5)), "1|a=-|5;1|a=.|5;1|a=_|5"},
	} {
		checkRows(t, x.l, true, x.text)
		checkParse(t, x.text, x.l, api.OK)
	}
}

// P8.1: Right and Text, by hand, of rows that aren't in order; Text tells them as they are.
func TestNotRight(t *testing.T) {
	for _, x := range []struct {
		l    []api.Row
		text string
	}{
		// alike in Window and Group
		{all(row(3, "", 5), row(3, "", 5)), "3||5;3||5"},
		{all(row(3, "", 5), row(3, "", 6)), "3||5;3||6"},
		{all(row(3, "a=1", 5), over(3, "a=1", 5)), "3|a=1|5;3|a=1|5!"},
		{all(row(1, "", 5), row(3, "a=1", 5), row(3, "a=1", 6), row(4, "", 5)), "1||5;3|a=1|5;3|a=1|6;4||5"},
		// Windows that fall, Groups that fall
		{all(row(4, "", 5), row(3, "", 6)), "4||5;3||6"},
		{all(row(4, "a=1", 5), row(3, "b=2", 6)), "4|a=1|5;3|b=2|6"},
		{all(row(-9, "", 5), row(-10, "", 6)), "-9||5;-10||6"},
		{all(row(10, "", 5), row(9, "", 6)), "10||5;9||6"},
		{all(row(top, "", 5), row(low, "", 6)), "9223372036854775807||5;-9223372036854775808||6"},
		{all(row(3, "a=1", 5), row(3, "", 6)), "3|a=1|5;3||6"},
		{all(row(3, "a=2", 5), row(3, "a=10", 6)), "3|a=2|5;3|a=10|6"},
		{all(row(3, "a=1", 5), row(3, "a1=1", 6)), "3|a=1|5;3|a1=1|6"},
		{all(row(1, "", 5), row(2, "", 5), row(4, "", 5), row(3, "", 5)), "1||5;2||5;4||5;3||5"},
		{all(row(2, "", 5), row(1, "", 5), row(3, "", 5), row(4, "", 5)), "2||5;1||5;3||5;4||5"},
		{all(row(1, "", 5), row(2, "", 5), row(1, "", 5)), "1||5;2||5;1||5"},
	} {
		checkRows(t, x.l, false, x.text)
		checkParse(t, x.text, nil, api.ErrOrder)
	}
	// a Group that is no text of tags, or one that they don't make
	for _, group := range []string{"a", "-", " ", "a=", "=1", "=", ",", "a=1,", ",a=1", "a=1,,b=2", "A=1", "a=A", "a=1 ", " a=1", "a=1\n", "a==1", "a=b=c", "{a=1}", "a!=1", "a=1*", "9=1", "abcdefghijklm=1", "a=0123456789.-_", "b=1,a=2", "a=1,a=1", "a=1,a=2", "a=1,b=2,c=3,d=4,e=5", "a=1,c=3,b=2", "a1=1,a=1", "é=1", "\xff", "\x00", "|", ";", "a=1|", "a=1;b=2"} {
		for _, x := range []struct {
			l    []api.Row
			text string
		}{
			{all(row(3, group, 5)), "3|" + group + "|5"},
			{all(row(3, "", 5), row(3, group, 6)), "3||5;3|" + group + "|6"},
			{all(row(3, group, 5), row(4, "", 6)), "3|" + group + "|5;4||6"},
			{all(row(2, "", 5), over(3, group, -5), row(4, "", 6)), "2||5;3|" + group + "|-5!;4||6"},
		} {
			checkRows(t, x.l, false, x.text)
		}
	}
}

// P8.1: Parse, by hand: what isn't of the form as a whole.
func TestParseForm(t *testing.T) {
	for _, s := range []string{
		"", " ", "--", "- ", " -", "-;", ";-", "-;-", "-||-", "-|-|-", "-;3||5", "3||5;-", "3||5;-;4||6", "3||-", "-||5",
		";", ";;", "3||5;", ";3||5", "3||5;;4||6", ";3||5;4||6", "3||5;4||6;", "3||5,4||6", "3||5\n4||6", "3||5; 4||6", "3||5 ;4||6",
		"3", "|", "||", "|||", "3|", "3||", "||5", "|a=1|", "3|5", "3|a=1", "|5", "3|a=1|", "|a=1|5", "3|a=1|5|", "|3|a=1|5", "3||5|", "|3||5", "3|||5", "3||5|6", "3|a=1|b=2|5", "3|a=1||5", "3||5||6", "3|a=1;5", "3;a=1;5", "3;|a=1|5", "3|a=1|5;4|6", "3|a=1|5;4||6|7",
		"\x00", "\xff", "no rows", "none",
	} {
		checkParse(t, s, nil, api.ErrForm)
	}
}

// P8.1: Parse, by hand: each error of each part; what is wrong in a row is told wherever that row stands, ahead of an order that is wrong.
func TestParseParts(t *testing.T) {
	const wide = "99999999999999999999"
	check := func(one string, e api.Errno) {
		t.Helper()
		for _, s := range []string{one, "3||5;" + one, one + ";4||6", "3||5;" + one + ";4||6", "4||6;3||5;" + one, one + ";4||6;3||5", "3||5;" + one + ";3||5"} {
			checkParse(t, s, nil, e)
		}
	}
	numbers := map[string]api.Errno{
		"": api.ErrForm, "-": api.ErrForm, "+3": api.ErrForm, "03": api.ErrForm, "-03": api.ErrForm, "-0": api.ErrForm, "00": api.ErrForm, " 3": api.ErrForm, "3 ": api.ErrForm, "3a": api.ErrForm, "a": api.ErrForm, "3.0": api.ErrForm, "0x3": api.ErrForm, "1_0": api.ErrForm, "--3": api.ErrForm, "3\n": api.ErrForm, "!": api.ErrForm, "!3": api.ErrForm, "3!!": api.ErrForm, "0" + wide: api.ErrForm, wide + "a": api.ErrForm, "a=1": api.ErrForm, "\xff": api.ErrForm,
		"9223372036854775808": api.ErrRange, "-9223372036854775809": api.ErrRange, wide: api.ErrRange, "-" + wide: api.ErrRange, "18446744073709551616": api.ErrRange,
	}
	for s, e := range numbers {
		check(s+"||5", e)
		check(s+"|a=1|5", e)
		check("3||"+s, e)
		check("3|a=1|"+s, e)
	}
	check("3!||5", api.ErrForm) // a Window can't run over
	check(wide+"!||5", api.ErrForm)
	check("3||"+wide+"!", api.ErrRange)
	check("3||-0!", api.ErrForm)
	check("3||5!!", api.ErrForm)
	for s, e := range map[string]api.Errno{
		"a": api.ErrForm, "-": api.ErrForm, " ": api.ErrForm, "a=": api.ErrForm, "=1": api.ErrForm, ",": api.ErrForm, "a=1,": api.ErrForm, ",a=1": api.ErrForm, "A=1": api.ErrForm, "a=A": api.ErrForm, "a==1": api.ErrForm, "{a=1}": api.ErrForm, "a=1 ": api.ErrForm, "abcdefghijklm=1": api.ErrForm, "a=0123456789.-_": api.ErrForm, "a=1,b": api.ErrForm,
		"a=1,b=2,c=3,d=4,e=5": api.ErrMany, "e=1,d=2,c=3,b=4,a=5": api.ErrMany, "a=1,a=1,a=1,a=1,a=1": api.ErrMany,
		"a=1,a=1": api.ErrTwice, "a=1,a=2": api.ErrTwice, "a=2,b=1,a=1": api.ErrTwice, "b=1,a=1,b=2": api.ErrTwice, "d=1,c=1,b=1,b=1": api.ErrTwice,
		"a=1,b=2,c=3,d=4,E=5": api.ErrForm, "a=1,b=2,c=3,d=4,": api.ErrForm, "a=1,a=1,b": api.ErrForm,
		// tags that are right, in another order than theirs
		"b=1,a=2": api.ErrForm, "a=1,c=3,b=2": api.ErrForm, "d=4,c=3,b=2,a=1": api.ErrForm, "a1=1,a=1": api.ErrForm, "a_=1,a=1": api.ErrForm, "b=2,a=1,c=3,d=4": api.ErrForm,
	} {
		check("3|"+s+"|5", e)
		check("3|"+s+"|5!", e)
	}
}

// P8.1: Parse, by hand: where several errors apply, the first one that is named tells, row by row, and the order behind all.
func TestParseFirstError(t *testing.T) {
	const wide = "99999999999999999999"
	for s, e := range map[string]api.Errno{
		// three parts ahead of what is wrong in one
		wide + "|": api.ErrForm, wide: api.ErrForm, wide + "||5|": api.ErrForm, "3|a=1,a=2": api.ErrForm, "3|a=1,a=2|5|": api.ErrForm, "3||" + wide + "|": api.ErrForm, "3|" + wide: api.ErrForm,
		// the first part ahead of the second one
		wide + "|a|5": api.ErrRange, wide + "|a=1,a=2|5": api.ErrRange, wide + "|b=1,a=2|5": api.ErrRange, "03|a=1,a=2|5": api.ErrForm, "x|a=1,b=2,c=3,d=4,e=5|5": api.ErrForm,
		// the first part ahead of the third one
		wide + "||x": api.ErrRange, wide + "||": api.ErrRange, "x||" + wide: api.ErrForm, wide + "|a|x": api.ErrRange,
		// the second part ahead of the third one, be it only its order
		"3|a|" + wide: api.ErrForm, "3|a=1,a=2|x": api.ErrTwice, "3|a=1,a=2|" + wide: api.ErrTwice, "3|a=1,b=2,c=3,d=4,e=5|x": api.ErrMany, "3|b=1,a=2|" + wide: api.ErrForm, "3|a=1,a=2|": api.ErrTwice,
		// one row ahead of the next one
		wide + "||5;x||5": api.ErrRange, "x||5;" + wide + "||5": api.ErrForm, "3||" + wide + ";": api.ErrRange, "3|a=1,a=2|5;x": api.ErrTwice, "x;3|a=1,a=2|5": api.ErrForm, ";" + wide + "||5": api.ErrForm, "3|b=1,a=2|5;3|a=1,a=2|5": api.ErrForm, "3|a=1,a=2|5;3|b=1,a=2|5": api.ErrTwice, "3||" + wide + ";4|a=1,a=2|5": api.ErrRange, "3|a=1,b=2,c=3,d=4,e=5|5;4|a=1,a=2|5": api.ErrMany, "3||5;" + wide + "||5;x": api.ErrRange,
		// all of them ahead of the order
		"3||5;3||5;x": api.ErrForm, "3||5;2||5;" + wide + "||5": api.ErrRange, "3||5;2||" + wide: api.ErrRange, "3||5;2|a=1,a=2|5": api.ErrTwice, "3||5;2|b=1,a=2|5": api.ErrForm, "3|a=2|5;3|a=1|5;3|a=1,b=2,c=3,d=4,e=5|5": api.ErrMany, "3||5;2|": api.ErrForm, "3||5;2||6;": api.ErrForm, "3||5;3||5;-": api.ErrForm,
		"3||5;2||6": api.ErrOrder, "3||5;3||6": api.ErrOrder, "3||5;3||5!": api.ErrOrder, "3|a=1|5;3||6": api.ErrOrder, "3|a=2|5;3|a=1|6": api.ErrOrder, "1||1;2||2;3||3;3||3": api.ErrOrder, "2||2;1||1;3||3": api.ErrOrder,
	} {
		checkParse(t, s, nil, e)
	}
}

// P8.1, P8.3: many rows.
func TestManyRows(t *testing.T) {
	var l []api.Row
	for i := range int64(5000) {
		l = append(l, row(i/2-1000, []string{"", "a=1"}[i%2], -i))
	}
	s := wantText(l)
	checkRows(t, l, true, s)
	checkParse(t, s, l, api.OK)
	checkParse(t, s+";", nil, api.ErrForm)
	checkParse(t, s+";"+s, nil, api.ErrOrder)
	checkParse(t, s+";1499|a=1|0", nil, api.ErrOrder)
	checkParse(t, s+";1499|a=2|0", append(l, row(1499, "a=2", 0)), api.OK)
	checkParse(t, strings.Repeat("|", 5000), nil, api.ErrForm)
	checkParse(t, strings.Repeat(";", 5000), nil, api.ErrForm)
	checkParse(t, "3|"+strings.Repeat("a=1,", 5000)+"a=1|5", nil, api.ErrMany)
	checkParse(t, "3||"+strings.Repeat("9", 5000), nil, api.ErrRange)
}

// P8.1, P8.3: all short lists of some rows: Right, Text and Parse; Before and Same of what stands in them.
func TestAllShortRows(t *testing.T) {
	some := all(row(-1, "", 5), row(0, "", 5), over(0, "", 5), row(0, "a=1", 0), row(0, "a=1,b=2", -7), row(0, "a=10", 1), row(0, "b=1,a=2", 1), row(0, "a", 1), row(top, "", top), over(low, "b=2", low))
	right := 0
	lists.EachShort(some, 4, func(l []api.Row) {
		checkRows(t, l, wantRight(l), wantText(l))
		want, e := wantParse(wantText(l))
		checkParse(t, wantText(l), want, e)
		if wantRight(l) {
			right++
		}
		if len(l) == 2 && (Before(l[0], l[1]) != wantBefore(l[0], l[1]) || Same(l[:1], l[1:]) != (l[0] == l[1])) {
			t.Errorf("of %v: Before is %v, Same is %v", l, Before(l[0], l[1]), Same(l[:1], l[1:]))
		}
	})
	// of seven places that are right, one of which has two rows, at most four: those without that one, and those with it, twice
	if want := (1 + 6 + 15 + 20 + 15) + 2*(1+6+15+20); right != want {
		t.Errorf("%d are in order, want %d", right, want)
	}
}

// P8.1, P8.3: all short texts of pieces that matter, as they stand and about what is right.
func TestAllShortTexts(t *testing.T) {
	check := func(s string) {
		want, e := wantParse(s)
		checkParse(t, s, want, e)
	}
	lists.EachShort([]string{"3", "0", "-", "|", ";", "!", "a=1"}, 6, func(l []string) { check(strings.Join(l, "")) })
	lists.EachShort([]string{"3||5", "3|a=1|5", "2||0!", "-1|b=2|7", "-", "", "3|b=1,a=1|5", "3|a=1,a=2|5", "9223372036854775808||5"}, 4, func(l []string) { check(strings.Join(l, ";")) })
	lists.EachShort([]string{"a=1", "b=2", "c=3", "d=4", "e=5", "a"}, 5, func(l []string) { check("3|" + strings.Join(l, ",") + "|5") })
	lists.EachShort([]string{"3", "", "03", "9223372036854775808", "a=1", "b=2,a=1", "a=1,a=2", "5!"}, 4, func(l []string) { check(strings.Join(l, "|")) })
}

// some are items of several windows, series and cells, such as count and such as don't.
func some() []api.Item {
	return []api.Item{
		item(2, "cpu{a=2}", 1),
		item(1, "cpu{a=1,b=2}", 4, 6),
		item(1, "cpu{a=1}", -3),
		item(1, "cpu", 9),
		item(1, "mem{a=1}", 100),
		item(1, "cpu{b=2,a=1}", 100),
		item(1, "?", 100),
		item(1, "cpu{a=3}"),
		item(1, "cpu{a=1}", 5, 7),
		item(-4, "cpu{a=1,b=3}", 8),
	}
}

// P8.1: Answer, by hand: each agg, with and without matches and names behind by.
func TestAnswer(t *testing.T) {
	for s, want := range map[string]string{
		"count cpu":                "-4||1;1||6;2||1",
		"sum cpu":                  "-4||8;1||28;2||1",
		"min cpu":                  "-4||8;1||-3;2||1",
		"max cpu":                  "-4||8;1||9;2||1",
		"count cpu by a":           "-4|a=1|1;1||1;1|a=1|5;2|a=2|1",
		"sum cpu by a":             "-4|a=1|8;1||9;1|a=1|19;2|a=2|1",
		"min cpu by a":             "-4|a=1|8;1||9;1|a=1|-3;2|a=2|1",
		"max cpu by a":             "-4|a=1|8;1||9;1|a=1|7;2|a=2|1",
		"sum cpu by b":             "-4|b=3|8;1||18;1|b=2|10;2||1",
		"sum cpu by a,b":           "-4|a=1,b=3|8;1||9;1|a=1|9;1|a=1,b=2|10;2|a=2|1",
		"sum cpu by b,a":           "-4|a=1,b=3|8;1||9;1|a=1|9;1|a=1,b=2|10;2|a=2|1",
		"sum cpu by x":             "-4||8;1||28;2||1",
		"sum cpu by x,b,y":         "-4|b=3|8;1||18;1|b=2|10;2||1",
		"sum cpu{a=1}":             "-4||8;1||19",
		"sum cpu{a!=1}":            "1||9;2||1",
		"sum cpu{a} by a":          "-4|a=1|8;1|a=1|19;2|a=2|1",
		"sum cpu{b} by a":          "-4|a=1|8;1|a=1|10",
		"sum cpu{a=1,b=2}":         "1||10",
		"sum cpu{a=1,b!=2} by b":   "-4|b=3|8;1||9",
		"max cpu{b=9}":             "-",
		"sum cpu{a=*,b=3*} by b,a": "-4|a=1,b=3|8",
		"sum mem":                  "1||100",
		"sum mem by a":             "1|a=1|100",
		"sum disk":                 "-",
		"sum cp":                   "-",
		"sum cpus":                 "-",
	} {
		checkAnswer(t, ask(t, s), some(), want)
	}
}

// P8.1: no items, and items that all don't count, have no rows.
func TestAnswerOfNothing(t *testing.T) {
	for _, s := range []string{"count cpu", "sum cpu", "min cpu by a", "max cpu{a} by a,b", "sum cpu{a!=1}"} {
		q := ask(t, s)
		checkAnswer(t, q, nil, "-")
		checkAnswer(t, q, []api.Item{}, "-")
		checkAnswer(t, q, []api.Item{{}}, "-")
		if l := Answer(q); len(l) != 0 {
			t.Errorf("Answer(%v) = %v", q, l)
		}
		for _, c := range []api.Cell{{}, {Sum: api.Sum{N: 9, Over: true}, Min: -9, Max: 9}, {Count: -1, Sum: api.Sum{N: 9}, Min: 1, Max: 2}, {Count: low, Min: low, Max: top}} {
			checkAnswer(t, q, []api.Item{{Window: 1, Key: "cpu{a=1}", Cell: c}}, "-")
			checkAnswer(t, q, []api.Item{{Window: 1, Key: "cpu", Cell: c}, {Window: 2, Key: "cpu", Cell: c}}, "-")
		}
	}
}

// P8.1: a cell that is empty changes nothing, whatever it has beside its count.
func TestAnswerWithEmpty(t *testing.T) {
	empty := api.Cell{Count: -1, Sum: api.Sum{N: 9, Over: true}, Min: -100, Max: 100}
	for _, x := range []struct{ s, want string }{
		{"count cpu by a", "1|a=1|2;1|a=2|1"}, {"sum cpu by a", "1|a=1|10;1|a=2|8"}, {"min cpu by a", "1|a=1|4;1|a=2|8"}, {"max cpu by a", "1|a=1|6;1|a=2|8"},
	} {
		items := []api.Item{item(1, "cpu{a=1}", 4, 6), item(1, "cpu{a=2}", 8)}
		for _, key := range []string{"cpu", "cpu{a=1}", "cpu{a=2}", "cpu{a=3}"} {
			for at := range len(items) + 1 {
				checkAnswer(t, ask(t, x.s), slices.Insert(slices.Clone(items), at, api.Item{Window: 1, Key: key, Cell: empty}), x.want)
			}
		}
	}
}

// P8.1: a query that may not be has no answer.
func TestAnswerOfNoQuery(t *testing.T) {
	one, five := []api.Match{{Kind: api.MatchHas, Name: "a"}}, slices.Repeat([]api.Match{{Kind: api.MatchHas, Name: "a"}}, 5)
	for _, q := range []api.Query{
		{}, {Name: "cpu"}, {Agg: 5, Name: "cpu"}, {Agg: -1, Name: "cpu"}, {Agg: 1 << 32, Name: "cpu"}, {Agg: 5, Name: "cpu", Match: one, By: []string{"a"}},
		{Agg: 2}, {Agg: 2, Name: "CPU"}, {Agg: 2, Name: "?"}, {Agg: 2, Name: "cpu{a=1}"},
		{Agg: 2, Name: "cpu", Match: five}, {Agg: 2, Name: "cpu", Match: []api.Match{{}}}, {Agg: 2, Name: "cpu", Match: []api.Match{{Kind: api.MatchNot, Name: "a"}}}, {Agg: 2, Name: "cpu", Match: []api.Match{{Kind: api.MatchHas, Name: "a", Value: "1"}}}, {Agg: 2, Name: "cpu", Match: []api.Match{{Kind: api.MatchNot, Name: "A", Value: "1"}}},
		{Agg: 2, Name: "cpu", By: []string{"a", "a"}}, {Agg: 2, Name: "cpu", By: []string{"a", "b", "c", "d", "e"}}, {Agg: 2, Name: "cpu", By: []string{""}}, {Agg: 2, Name: "cpu", By: []string{"A"}}, {Agg: 2, Name: "cpu", By: []string{"a,b"}},
	} {
		checkAnswer(t, q, some(), "-")
		checkAnswer(t, q, []api.Item{item(1, q.Name, 1), item(1, "", 1), item(1, "cpu{a=1}", 1)}, "-")
		checkAnswer(t, q, nil, "-")
	}
}

// P8.1: an item counts just if its key is the text of a series, as a series has it, of the query's name.
func TestAnswerByKeys(t *testing.T) {
	for _, key := range []string{
		"", "?", " ", "-", "cpu ", " cpu", "cpu\n", "CPU", "Cpu", "cp", "cpus", "cpu1", "mem", "mem{a=1}", "9", "cpu.", "cpu|", "cpu;", "a=1", "{a=1}", "cpu\x00", "\xffcpu",
		"cpu{", "cpu}", "cpu{}", "cpu{a}", "cpu{a=}", "cpu{=1}", "cpu{a=1", "cpua=1}", "cpu{a=1} ", "cpu {a=1}", "cpu{a=1}b", "cpu{a=1}}", "cpu{{a=1}", "cpu{a=1}{b=2}", "cpu{a=1,}", "cpu{,a=1}", "cpu{a=1,,b=2}", "cpu{a=1, b=2}", "cpu{A=1}", "cpu{a=A}", "cpu{a!=1}", "cpu{a=1*}", "cpu{abcdefghijklm=1}", "cpu{a=0123456789.-_}", "cpu[a=1]",
		"cpu{b=2,a=1}", "cpu{a=1,c=3,b=2}", "cpu{a1=1,a=1}", "cpu{a=1,a=1}", "cpu{a=1,a=2}", "cpu{a=1,b=2,c=3,d=4,e=5}",
	} {
		for _, s := range []string{"count cpu", "sum cpu by a", "max cpu{x!=1} by a,b", "min cpu{a!=7}"} {
			checkAnswer(t, ask(t, s), []api.Item{item(1, key, 100)}, "-")
		}
		items := []api.Item{item(1, "cpu{a=1}", 3), item(1, key, 100), item(2, key, 100), item(2, "cpu", 4)}
		checkAnswer(t, ask(t, "sum cpu by a"), items, "1|a=1|3;2||4")
	}
	for key, want := range map[string]string{"cpu": "1||7", "cpu{a=1}": "1|a=1|7", "cpu{a=1,b=2,c=3,d=4}": "1|a=1,b=2,c=3,d=4|7", "cpu{abcdefghijkl=0123456789.-}": "1||7", "cpu{a=-}": "1|a=-|7", "cpu{cpu=cpu}": "1||7"} {
		checkAnswer(t, ask(t, "sum cpu by d,c,b,a"), []api.Item{item(1, key, 7)}, want)
		checkAnswer(t, ask(t, "count cpu"), []api.Item{item(1, key, 7)}, "1||1")
	}
}

// P8.1: what stands in a cell is told as it is, also such as no samples make; windows are at both ends.
func TestAnswerOfAnyCell(t *testing.T) {
	odd := api.Cell{Count: 3, Sum: api.Sum{N: -7, Over: true}, Min: 11, Max: -11}
	items := []api.Item{{Window: top, Key: "cpu", Cell: odd}, {Window: low, Key: "cpu", Cell: api.Cell{Count: top, Sum: api.Sum{N: low}, Min: low, Max: top}}, {Window: 0, Key: "cpu", Cell: api.Cell{Count: 1}}}
	const first, last = "-9223372036854775808||", ";9223372036854775807||"
	for s, want := range map[string]string{
		"count cpu": first + "9223372036854775807;0||1" + last + "3",
		"sum cpu":   first + "-9223372036854775808;0||0" + last + "-7!",
		"min cpu":   first + "-9223372036854775808;0||0" + last + "11",
		"max cpu":   first + "9223372036854775807;0||0" + last + "-11",
	} {
		checkAnswer(t, ask(t, s), items, want)
	}
}

// P8.1: cells are merged as the texts of their keys rise, byte by byte, not as they come, nor as their tags rise; so a sum runs over, or doesn't.
func TestSumsInTheOrderOfKeys(t *testing.T) {
	const runs, fits = "0||9223372036854775807!", "0||9223372036854775803"
	for _, keys := range [][3]string{
		{"cpu", "cpu{a=1}", "cpu{a=2}"},
		{"cpu{a=1}", "cpu{a=2}", "cpu{a=3}"},
		{"cpu{a=10}", "cpu{a=1}", "cpu{a=2}"},
		{"cpu{a=1,b=2}", "cpu{a=1}", "cpu{b=2}"},
		{"cpu{a1=1}", "cpu{a=1}", "cpu{a_=1}"},
		{"cpu{a=-}", "cpu{a=.}", "cpu{a=_}"},
	} {
		for _, x := range []struct {
			values [3]int64
			want   string
		}{
			{[3]int64{top, 1, -5}, runs}, {[3]int64{1, top, -5}, runs}, {[3]int64{top, -5, 1}, fits}, {[3]int64{-5, top, 1}, fits}, {[3]int64{1, -5, top}, fits}, {[3]int64{-5, 1, top}, fits},
			{[3]int64{low, -1, 5}, "0||-9223372036854775808!"}, {[3]int64{low, 5, -1}, "0||-9223372036854775804"},
			{[3]int64{top, 1, low}, runs}, {[3]int64{low, -1, top}, "0||-9223372036854775808!"}, {[3]int64{low, top, 1}, "0||0"},
		} {
			items := []api.Item{item(0, keys[0], x.values[0]), item(0, keys[1], x.values[1]), item(0, keys[2], x.values[2])}
			lists.EachOrder(items, func(l []api.Item) { checkAnswer(t, ask(t, "sum cpu"), l, x.want) })
		}
	}
	// which of two that ran over is first is told by the keys, too
	a, b := api.Cell{Count: 1, Sum: api.Sum{N: 4, Over: true}}, api.Cell{Count: 1, Sum: api.Sum{N: 5, Over: true}}
	checkAnswer(t, ask(t, "sum cpu"), []api.Item{{Key: "cpu{a=1}", Cell: a}, {Key: "cpu{a=2}", Cell: b}}, "0||4!")
	checkAnswer(t, ask(t, "sum cpu"), []api.Item{{Key: "cpu{a=2}", Cell: a}, {Key: "cpu{a=1}", Cell: b}}, "0||5!")
}

// P8.1: of one key they are merged as they stand.
func TestSumsOfOneKey(t *testing.T) {
	for _, x := range []struct {
		values []int64
		want   string
	}{
		{[]int64{top, 1, -5}, "0||9223372036854775807!"}, {[]int64{1, top, -5}, "0||9223372036854775807!"}, {[]int64{-5, top, 1}, "0||9223372036854775803"}, {[]int64{top, -5, 1}, "0||9223372036854775803"}, {[]int64{low, -1, 5}, "0||-9223372036854775808!"}, {[]int64{5, low, -1}, "0||-9223372036854775804"},
	} {
		var one, among []api.Item
		for i, v := range x.values {
			one = append(one, item(0, "cpu{a=1}", v))
			among = append(among, item(0, "cpu{a=2}", 0), item(0, "cpu{a=1}", v), item(int64(i+1), "cpu{a=1}", top), item(0, "cpu", 0))
		}
		checkAnswer(t, ask(t, "sum cpu"), one, x.want)
		checkAnswer(t, ask(t, "sum cpu"), among, x.want+";1||9223372036854775807;2||9223372036854775807;3||9223372036854775807")
		checkAnswer(t, ask(t, "sum cpu by a"), one, strings.Replace(x.want, "||", "|a=1|", 1))
	}
}

// P8.1, P8.2: so many that a sort that isn't stable would mix those of one key; each of them ran over, so the first one tells.
func TestManyOfOneKey(t *testing.T) {
	keys := []string{"cpu{a=3}", "cpu{a=1}", "mem", "cpu", "cpu{a=2}", "cpu{a=1,b=2}", "?"}
	var items []api.Item
	for i := range int64(700) {
		items = append(items, api.Item{Window: i % 3, Key: keys[i%7], Cell: api.Cell{Count: 1, Sum: api.Sum{N: i, Over: true}, Min: i, Max: i}})
	}
	checkAnswer(t, ask(t, "sum cpu"), items, "0||3!;1||10!;2||17!")
	checkAnswer(t, ask(t, "sum cpu by a"), items, "0||3!;0|a=1|12!;0|a=2|18!;0|a=3|0!;1||10!;1|a=1|19!;1|a=2|4!;1|a=3|7!;2||17!;2|a=1|5!;2|a=2|11!;2|a=3|14!")
	checkAnswer(t, ask(t, "count cpu"), items, "0||167;1||167;2||166")
	checkAnswer(t, ask(t, "max cpu{a=1} by b"), items, "0||687;0|b=2|684;1||694;1|b=2|691;2||680;2|b=2|698")
}

// P8.2: in whatever order items of unlike keys come, the answer is the same.
func TestInAnyOrder(t *testing.T) {
	items := []api.Item{item(1, "cpu", top), item(1, "cpu{a=1}", 1, 2), item(0, "cpu{a=1,b=2}", low), item(1, "cpu{a=2}", low), item(1, "cpu{a=2,b=2}", -1), item(0, "cpu{b=2}", -3), item(1, "mem", 9)}
	for _, s := range []string{"count cpu", "sum cpu", "min cpu", "max cpu", "sum cpu by a", "sum cpu by b,a", "count cpu{b} by b", "sum cpu{a!=1}"} {
		q := ask(t, s)
		want := wantText(Answer(q, items...))
		lists.EachOrder(items, func(l []api.Item) {
			if got := wantText(Answer(q, l...)); got != want {
				t.Errorf("%s over %v is %q, want %q", s, l, got, want)
			}
		})
	}
}

// P8.1, P8.2: all short lists of some items, by some queries, against the long way.
func TestAllShortItems(t *testing.T) {
	items := []api.Item{item(1, "cpu", top), item(1, "cpu", -2), item(0, "cpu{a=1}", 1), item(1, "cpu{a=1}", 1), item(1, "cpu{a=1,b=2}", 5, 7), item(1, "cpu{b=2}", low), item(1, "cpu{b=2,a=1}", 4), item(1, "mem", 4), item(1, "cpu")}
	var queries []api.Query
	for _, s := range []string{"count cpu", "sum cpu", "min cpu by a", "max cpu by b,a", "sum cpu by a", "sum cpu{a}", "sum cpu{b!=2} by b", "sum mem"} {
		queries = append(queries, ask(t, s))
	}
	lists.EachShort(items, 4, func(l []api.Item) {
		for _, q := range queries {
			checkAnswer(t, q, l, wantText(wantAnswer(q, l)))
		}
	})
}

// totals are the counts of an answer, together, by their windows, as numbers that have no end; and whether one is the greatest number.
func totals(l []api.Row) (map[int64]string, bool) {
	sums, greatest := map[int64]*big.Int{}, false
	for _, r := range l {
		if sums[r.Window] == nil {
			sums[r.Window] = new(big.Int)
		}
		sums[r.Window].Add(sums[r.Window], big.NewInt(r.Value.N))
		greatest = greatest || r.Value.N == top || r.Value.Over
	}
	texts := map[int64]string{}
	for window, n := range sums {
		texts[window] = n.String()
	}
	return texts, greatest
}

// P8.4: the counts by groups are, together, the count without groups, unless one is the greatest number.
func TestTogether(t *testing.T) {
	items := []api.Item{counted(1, "cpu", 3), counted(1, "cpu{a=1}", 4), counted(1, "cpu{a=2}", top-9), counted(1, "cpu{a=1,b=2}", 2), counted(2, "cpu{b=2}", top/2), counted(2, "cpu{b=3}", top/2), counted(2, "cpu{a=1}", top), counted(2, "mem", 1), counted(2, "cpu", -1)}
	bare := 0
	lists.EachShort(items, 4, func(l []api.Item) {
		for _, match := range []string{"", "{a}", "{b!=2}"} {
			whole, greatest := totals(Answer(ask(t, "count cpu"+match), l...))
			for _, by := range []string{"a", "b", "a,b", "b,a", "x", "x,b"} {
				got, great := totals(Answer(ask(t, "count cpu"+match+" by "+by), l...))
				if greatest || great {
					continue
				}
				bare++
				if !maps.Equal(got, whole) {
					t.Errorf("%v: by %s %v, without groups %v", l, by, got, whole)
				}
			}
		}
	})
	if bare == 0 {
		t.Error("all counts are the greatest number")
	}
}

// P8.4: by hand, about the greatest number: there a count stays, and doesn't tell that it ran over.
func TestTogetherAtTheTop(t *testing.T) {
	for _, x := range []struct {
		a, b     int64
		by, bare string
	}{
		{3, 4, "0|a=1|3;0|a=2|4", "0||7"},
		{top - 2, 1, "0|a=1|9223372036854775805;0|a=2|1", "0||9223372036854775806"},
		{top - 1, 1, "0|a=1|9223372036854775806;0|a=2|1", "0||9223372036854775807"},
		{top - 1, 2, "0|a=1|9223372036854775806;0|a=2|2", "0||9223372036854775807"},
		{top, 1, "0|a=1|9223372036854775807;0|a=2|1", "0||9223372036854775807"},
		{top, top, "0|a=1|9223372036854775807;0|a=2|9223372036854775807", "0||9223372036854775807"},
		{top, 0, "0|a=1|9223372036854775807", "0||9223372036854775807"},
	} {
		items := []api.Item{counted(0, "cpu{a=1}", x.a), counted(0, "cpu{a=2}", x.b)}
		checkAnswer(t, ask(t, "count cpu by a"), items, x.by)
		checkAnswer(t, ask(t, "count cpu"), items, x.bare)
	}
}

// P8.1: what was handed in is as it was, its spare room too.
func TestWhatIsHandedInStays(t *testing.T) {
	rows := all(row(5, "b=1", 1), over(4, "a=1", 2), row(4, "", 3), row(3, "spare", 4), row(2, "room", 5))
	items := slices.Concat(some(), some())
	q := ask(t, "sum cpu{a!=9,b!=9} by b,a")
	rowsWere, itemsWere := slices.Clone(rows), slices.Clone(items)
	match, by := slices.Clone(q.Match), slices.Clone(q.By)
	for n := range len(items) + 1 {
		l := rows[:min(n, len(rows))]
		Right(l)
		Text(l)
		Same(l, rows)
		Same(rows, l)
		Answer(api.Query{Agg: q.Agg, Name: q.Name, Match: q.Match[:n%2], By: q.By[:n%2]}, items[:n]...)
		Answer(q, items[:n]...)
		if !slices.Equal(rows, rowsWere) || !slices.Equal(items, itemsWere) || !slices.Equal(q.Match, match) || !slices.Equal(q.By, by) {
			t.Fatalf("behind calls with %d there are %v, %v, %v", n, rows, items, q)
		}
	}
}

// P8.1: a call hangs on its arguments alone: who writes into an answer changes no later one.
func TestNothingIsKept(t *testing.T) {
	const s = "3|a=1|5;4||7!"
	for range 3 {
		l, e := Parse(s)
		if e != api.OK || !equal(l, all(row(3, "a=1", 5), over(4, "", 7))) {
			t.Fatalf("Parse(%q) = %v, %d", s, l, e)
		}
		clear(l[:cap(l)])
		l = Answer(ask(t, "sum cpu by a"), some()...)
		if got := wantText(l); got != "-4|a=1|8;1||9;1|a=1|19;2|a=2|1" {
			t.Fatalf("the answer is %q", got)
		}
		clear(l[:cap(l)])
	}
}

// P8.1, P8.2, P8.3: the same for whatever a fuzzer finds.
func FuzzTexts(f *testing.F) {
	for _, s := range []string{"", "-", "3|a=1|5;4||7!", "-1||0;0|a=1|-2;0|a=2|3", "3|b=1,a=2|5", "3||5;3||6", "3||5;", "9223372036854775808||5", "3|a=1,b=2,c=3,d=4,e=5|5!"} {
		f.Add(s, "sum cpu{a} by a,b", "cpu{a=1};cpu;cpu{a=1,b=2}", int64(1))
	}
	f.Fuzz(func(t *testing.T, s, asked, keys string, n int64) {
		want, e := wantParse(s)
		checkParse(t, s, want, e)
		var rows []api.Row
		var items []api.Item
		for i, key := range strings.Split(keys, ";") {
			rows = append(rows, row(n+int64(i), key, n))
			items = append(items, item(n>>i&1, key, n<<i, n))
		}
		checkRows(t, rows, wantRight(rows), wantText(rows))
		if Same(rows, want) != equal(rows, want) {
			t.Errorf("Same(%v, %v) = %v", rows, want, Same(rows, want))
		}
		q, _ := query.Parse(asked)
		checkAnswer(t, q, items, wantText(wantAnswer(q, items)))
	})
}
