package query

import (
	"regexp"
	"slices"
	"strings"
	"testing"

	"ebbtide/api"
	"ebbtide/lists"
)

const namePattern = `[a-z][a-z0-9_]{0,11}`

// What a name, a match and a query must look like, told by other means: patterns of bytes. Of a query's text what stands between the brackets and behind by is looked at on its own.
var (
	goodName  = regexp.MustCompile(`\A` + namePattern + `\z`)
	goodMatch = regexp.MustCompile(`\A([12] ` + namePattern + ` [a-z0-9_.-]{1,12}|3 ` + namePattern + ` [a-z0-9_.-]{0,12}|4 ` + namePattern + ` )\z`)
	goodPart  = regexp.MustCompile(`\A(` + namePattern + `)(?:(!?=)([a-z0-9_.-]{1,12})|(=)([a-z0-9_.-]{0,12})\*)?\z`)
	goodText  = regexp.MustCompile(`\A(count|sum|min|max) (` + namePattern + `)(?:\{([^ ]+)\})?(?: by ([^ ]+))?\z`)
)

// One match of each kind, and of any.
func is(name, value string) api.Match     { return match(api.MatchIs, name, value) }
func not(name, value string) api.Match    { return match(api.MatchNot, name, value) }
func prefix(name, value string) api.Match { return match(api.MatchPrefix, name, value) }
func has(name string) api.Match           { return match(api.MatchHas, name, "") }
func match(kind int, name, value string) api.Match {
	return api.Match{Kind: kind, Name: name, Value: value}
}

// all makes a list of matches.
func all(l ...api.Match) []api.Match { return l }

// ask makes a query, that may be or not.
func ask(agg int, name string, l []api.Match, by ...string) api.Query {
	return api.Query{Agg: agg, Name: name, Match: l, By: by}
}

// series makes one of a name and of its tags' names and values, whatever they are.
func series(name string, words ...string) api.Key {
	return api.Key{Name: name, Tags: lists.Tags(words...)}
}

// equal: part by part; a list of nothing is one of nothing, nil or empty.
func equal(a, b api.Query) bool {
	if a.Agg != b.Agg || a.Name != b.Name || len(a.Match) != len(b.Match) || len(a.By) != len(b.By) {
		return false
	}
	for i := range a.Match {
		if a.Match[i] != b.Match[i] {
			return false
		}
	}
	for i := range a.By {
		if a.By[i] != b.By[i] {
			return false
		}
	}
	return true
}

// copied shares nothing with q.
func copied(q api.Query) api.Query {
	return api.Query{Agg: q.Agg, Name: q.Name, Match: slices.Clone(q.Match), By: slices.Clone(q.By)}
}

// wantBy is what is wrong with names behind by.
func wantBy(by []string) api.Errno {
	different := map[string]bool{}
	for _, name := range by {
		if !goodName.MatchString(name) {
			return api.ErrForm
		}
		different[name] = true
	}
	if len(by) > 4 {
		return api.ErrMany
	}
	if len(different) < len(by) {
		return api.ErrTwice
	}
	return api.OK
}

// wantRight is what Right must answer.
func wantRight(q api.Query) bool {
	for _, m := range q.Match {
		if m.Kind < 1 || m.Kind > 9 || !goodMatch.MatchString("0123456789"[m.Kind:m.Kind+1]+" "+m.Name+" "+m.Value) {
			return false
		}
	}
	return 1 <= q.Agg && q.Agg <= 4 && goodName.MatchString(q.Name) && len(q.Match) <= 4 && wantBy(q.By) == api.OK
}

// wantText is what Text must answer, byte by byte: a { ahead of the first match, by ahead of the first name, a comma ahead of each other one.
func wantText(q api.Query) string {
	if !wantRight(q) {
		return ""
	}
	b := []byte([]string{"count ", "sum ", "min ", "max "}[q.Agg-1] + q.Name)
	for i, m := range q.Match {
		b = append(b, "{,"[min(i, 1)])
		b = append(b, m.Name...)
		b = append(b, []string{"=", "!=", "=", ""}[m.Kind-1]...)
		b = append(b, m.Value...)
		b = append(b, []string{"", "", "*", ""}[m.Kind-1]...)
	}
	if len(q.Match) > 0 {
		b = append(b, '}')
	}
	for i, name := range q.By {
		b = append(b, []string{" by ", ","}[min(i, 1)]...)
		b = append(b, name...)
	}
	return string(b)
}

// wantMatches is what what stands between brackets must be read as.
func wantMatches(s string) ([]api.Match, api.Errno) {
	var l []api.Match
	for part := range strings.SplitSeq(s, ",") {
		found := goodPart.FindStringSubmatch(part)
		if found == nil {
			return nil, api.ErrForm
		}
		kind := map[string]int{"=": 1, "!=": 2, "*=": 3, "": 4}[found[2]+strings.Repeat("*", len(found[4]))+found[4]]
		l = append(l, match(kind, found[1], found[3]+found[5]))
	}
	if len(l) > 4 {
		return nil, api.ErrMany
	}
	return l, api.OK
}

// wantParse is what Parse must answer.
func wantParse(s string) (api.Query, api.Errno) {
	words := strings.FieldsFunc(s, func(r rune) bool { return r == ' ' })
	found := goodText.FindStringSubmatch(strings.Join(words, " "))
	if found == nil {
		return api.Query{}, api.ErrForm
	}
	q := api.Query{Agg: map[string]int{"count": 1, "sum": 2, "min": 3, "max": 4}[found[1]], Name: found[2]}
	if found[3] != "" {
		var e api.Errno
		if q.Match, e = wantMatches(found[3]); e != api.OK {
			return api.Query{}, e
		}
	}
	if found[4] != "" {
		q.By = strings.Split(found[4], ",")
	}
	if e := wantBy(q.By); e != api.OK {
		return api.Query{}, e
	}
	return q, api.OK
}

// wantFits is what Fits must answer: values stand in a map, the first tag of a name laid over those behind it.
func wantFits(q api.Query, k api.Key) bool {
	first := map[string]string{}
	for _, one := range slices.Backward(k.Tags) {
		first[one.Name] = one.Value
	}
	for _, m := range q.Match {
		v, there := first[m.Name]
		fits := map[int]bool{1: there && v == m.Value, 2: !there || v != m.Value, 3: there && strings.Index(v, m.Value) == 0, 4: there}
		if !fits[m.Kind] {
			return false
		}
	}
	return q.Name == k.Name
}

// wantGroup is what Group must answer, byte by byte.
func wantGroup(q api.Query, k api.Key) string {
	asked := map[string]bool{}
	for _, name := range q.By {
		asked[name] = true
	}
	var b []byte
	for _, one := range k.Tags {
		if !asked[one.Name] {
			continue
		}
		if len(b) > 0 {
			b = append(b, ',')
		}
		b = append(b, one.Name+"="+one.Value...)
	}
	return string(b)
}

// checkQuery holds Right and Text of q against what is wanted; one that may be comes back from its text.
func checkQuery(t *testing.T, q api.Query, right bool, text string) {
	t.Helper()
	was := copied(q)
	if got := Right(q); got != right {
		t.Errorf("Right(%v) = %v", q, got)
	}
	if got := Text(q); got != text {
		t.Errorf("Text(%v) = %q, want %q", q, got, text)
	}
	if again, e := Parse(Text(q)); right && (e != api.OK || !equal(again, q)) {
		t.Errorf("Parse(%q) = %v, %d, want %v", Text(q), again, e, q)
	}
	if !equal(q, was) {
		t.Errorf("%v became %v", was, q)
	}
}

// checkParse holds Parse of s against what is wanted, and what it answers against its own text.
func checkParse(t *testing.T, s string, want api.Query, e api.Errno) {
	t.Helper()
	q, f := Parse(s)
	if f != e || !equal(q, want) {
		t.Errorf("Parse(%q) = %v, %d, want %v, %d", s, q, f, want, e)
	}
	if f != api.OK {
		return
	}
	if again, g := Parse(Text(q)); !Right(q) || g != api.OK || !equal(again, q) {
		t.Errorf("Parse(%q) = %v: may it be? %v; behind its text %q it is %v, %d", s, q, Right(q), Text(q), again, g)
	}
}

// P7.1, P7.2: Right and Text, by hand, of queries that may be; they come back from their text.
func TestRight(t *testing.T) {
	for _, x := range []struct {
		q    api.Query
		text string
	}{
		{ask(api.AggCount, "cpu", nil), "count cpu"},
		{ask(api.AggSum, "cpu", nil), "sum cpu"},
		{ask(api.AggMin, "cpu", nil), "min cpu"},
		{ask(api.AggMax, "cpu", nil), "max cpu"},
		{api.Query{Agg: 1, Name: "cpu", Match: []api.Match{}, By: []string{}}, "count cpu"},
		{ask(api.AggSum, "cpu", all(is("a", "1")), "zone", "dc"), "sum cpu{a=1} by zone,dc"},
		{ask(api.AggSum, "cpu", all(is("a", "1"))), "sum cpu{a=1}"},
		{ask(api.AggSum, "cpu", nil, "zone"), "sum cpu by zone"},
		{ask(api.AggMin, "cpu", nil, "d", "c", "b", "a"), "min cpu by d,c,b,a"},
		{ask(api.AggMax, "cpu", all(is("a", "1"), not("b", "2"), prefix("c", "x"), has("d")), "a", "b", "c", "d"), "max cpu{a=1,b!=2,c=x*,d} by a,b,c,d"},
		{ask(api.AggMax, "cpu", all(has("a"), has("a"), prefix("a", ""), has("a")), "cpu"), "max cpu{a,a,a=*,a} by cpu"},
		{ask(api.AggCount, "by", all(has("by")), "by"), "count by{by} by by"},
		{ask(api.AggSum, "sum", nil, "sum"), "sum sum by sum"},
		{ask(api.AggSum, "x_9", all(is("y_", "-.")), "z__0"), "sum x_9{y_=-.} by z__0"},
		{ask(api.AggCount, "abcdefghijkl", all(prefix("abcdefghijkl", "0123456789.-")), "abcdefghijkl", "abcdefghijk"), "count abcdefghijkl{abcdefghijkl=0123456789.-*} by abcdefghijkl,abcdefghijk"},
	} {
		checkQuery(t, x.q, true, x.text)
	}
}

// P7.1: Right and Text, by hand, of queries that may not be.
func TestNotRight(t *testing.T) {
	one, five := all(is("a", "1")), all(has("a"), has("b"), has("c"), has("d"), has("e"))
	for _, q := range []api.Query{
		{},
		// the agg
		ask(0, "cpu", nil), ask(5, "cpu", nil), ask(-1, "cpu", nil), ask(0, "cpu", one, "zone"), ask(5, "cpu", one, "zone"), ask(-4, "cpu", one, "zone"), ask(257, "cpu", nil), ask(-1<<63, "cpu", nil), ask(1<<63-1, "cpu", nil), ask(1<<32+1, "cpu", nil),
		// the name
		ask(1, "", nil), ask(1, "CPU", nil), ask(1, "9", nil), ask(1, "_a", nil), ask(1, "a.b", nil), ask(1, "a-b", nil), ask(1, "a b", nil), ask(1, " ", nil), ask(1, "cpu{", nil), ask(1, "cpu{a}", nil), ask(1, "cpu by b", nil), ask(1, "abcdefghijklm", nil), ask(1, "\xff", nil), ask(2, "", one, "zone"),
		// the matches
		ask(1, "cpu", five), ask(1, "cpu", five, "a"), ask(1, "cpu", all(api.Match{})), ask(1, "cpu", all(has(""))), ask(1, "cpu", all(is("a", ""))), ask(1, "cpu", all(is("a", "x*"))), ask(1, "cpu", all(not("a", "A"))), ask(1, "cpu", all(prefix("a", "*"))), ask(1, "cpu", all(match(4, "a", "1"))), ask(1, "cpu", all(match(0, "a", "1"))), ask(1, "cpu", all(match(5, "a", "1"))), ask(1, "cpu", all(is("a", "1}"))), ask(1, "cpu", all(has("a"), has("b"), has("c"), has("D"))), ask(1, "cpu", all(is("abcdefghijklm", "1"))), ask(1, "cpu", all(is("a", "0123456789.-_"))),
		// By
		ask(1, "cpu", nil, "a", "b", "c", "d", "e"), ask(1, "cpu", nil, "a", "a", "a", "a", "a"), ask(1, "cpu", nil, "a", "a"), ask(1, "cpu", one, "a", "a"), ask(1, "cpu", nil, "a", "b", "a"), ask(1, "cpu", nil, "a", "b", "c", "a"), ask(1, "cpu", nil, "d", "a", "b", "b"), ask(1, "cpu", nil, "d", "c", "c", "b"), ask(1, "cpu", nil, ""), ask(1, "cpu", nil, "", ""), ask(1, "cpu", nil, "a", ""), ask(1, "cpu", nil, "", "a"), ask(1, "cpu", nil, "A"), ask(1, "cpu", nil, "a", "b", "c", "9"), ask(1, "cpu", nil, "a,b"), ask(1, "cpu", nil, "a b"), ask(1, "cpu", nil, "a=1"), ask(1, "cpu", nil, "abcdefghijklm"), ask(1, "cpu", nil, "\x80"),
	} {
		checkQuery(t, q, false, "")
	}
}

// P7.1, P7.2: Parse, by hand: texts that are right.
func TestParse(t *testing.T) {
	for s, want := range map[string]api.Query{
		"count cpu":                           ask(1, "cpu", nil),
		"sum cpu":                             ask(2, "cpu", nil),
		"min cpu":                             ask(3, "cpu", nil),
		"max cpu":                             ask(4, "cpu", nil),
		" max  cpu ":                          ask(4, "cpu", nil),
		"sum cpu{a=1} by zone,dc":             ask(2, "cpu", all(is("a", "1")), "zone", "dc"),
		"   sum   cpu{a=1}   by   zone,dc   ": ask(2, "cpu", all(is("a", "1")), "zone", "dc"),
		"sum cpu{a=1}":                        ask(2, "cpu", all(is("a", "1"))),
		"sum cpu by zone":                     ask(2, "cpu", nil, "zone"),
		"min cpu{a}":                          ask(3, "cpu", all(has("a"))),
		"min cpu{a=*}":                        ask(3, "cpu", all(prefix("a", ""))),
		"min cpu{a!=1,a!=2,a,a=x*}":           ask(3, "cpu", all(not("a", "1"), not("a", "2"), has("a"), prefix("a", "x"))),
		"max cpu{a,a,a,a} by d,c,b,a":         ask(4, "cpu", all(has("a"), has("a"), has("a"), has("a")), "d", "c", "b", "a"),
		"count by":                            ask(1, "by", nil),
		"count by by by":                      ask(1, "by", nil, "by"),
		"count by{by} by by":                  ask(1, "by", all(has("by")), "by"),
		"sum max by min,count":                ask(2, "max", nil, "min", "count"),
		"sum abcdefghijkl{abcdefghijkl=0123456789.-} by abcdefghijkl,b": ask(2, "abcdefghijkl", all(is("abcdefghijkl", "0123456789.-")), "abcdefghijkl", "b"),
	} {
		checkParse(t, s, want, api.OK)
	}
}

// P7.1: Parse, by hand: texts that aren't of the form.
func TestParseForm(t *testing.T) {
	for _, s := range []string{
		// how many words there are, and which one is third
		"", " ", "   ", "sum", " sum ", "cpu", "by", "sum cpu by", "sum cpu a", "sum cpu by ", "sum by a", "sum cpu{a=1} by", "sum cpu by a b", "sum cpu by a by", "sum cpu by a, b", "sum cpu by a ,b", "sum cpu{a, b}", "sum cpu {a}", "sum cpu on a", "sum cpu BY a", "sum cpu By a", "sum cpu by, a", "sum cpu a by", "sum cpu by by by", "by sum cpu a", "sum cpu by a by b", "sum cpu b y a", "sum cpu bya a", "sum cpu b a",
		"sum\tcpu", "sum cpu\tby a", "sum\ncpu", "sum cpu\tby\ta", "sum\u00a0cpu", "sum cpu by\ta",
		// no agg's word
		"avg cpu", "Sum cpu", "SUM cpu", "sums cpu", "su cpu", "counts cpu", "1 cpu", "2 cpu", "cpu sum", "by cpu", "sum{a} cpu", "avg cpu by a", "\xff cpu", "sum, cpu", "- cpu", "0 cpu",
		// the name
		"sum 9", "sum CPU", "sum _a", "sum a.b", "sum a-b", "sum a,b", "sum a=1", "sum abcdefghijklm", "sum abcdefghijklm{a}", "sum 9{a=1}", "sum A{a=1} by a", "sum \xff", "sum cpu\n", "sum cpu\x00", "sum a*",
		// brackets
		"sum cpu{", "sum cpu{a", "sum cpu{a=1", "sum cpu{a=1}b", "sum cpu{a=1},", "sum cpu}", "sum cpua}", "sum cpu}a", "sum cpu{}", "sum cpu{} by a", "sum cpu{ by a", "sum {", "sum }", "sum {}", "sum {a}", "sum {a=1} by a", "sum {a", "sum a}", "sum }{", "sum cpu}{", "sum cpu}{a}", "sum cpu{{", "sum cpu}}", "sum cpu{{}", "sum cpu{}}", "sum cpu{{}}", "sum cpu{{a}", "sum cpu{a}}", "sum cpu{{a}}", "sum cpu{a}{b}", "sum cpu{a}{", "sum cpu{a}{}", "sum cpu{a{b}", "sum cpu{a}b}", "sum cpu{a},{b}", "sum cpu{a by b}", "sum cpu{a= by b}", "sum cpu{a=1}{b=2}", "sum cpu{}a}", "sum cpu{}{a}",
		// what stands between
		"sum cpu{a=}", "sum cpu{=1}", "sum cpu{=}", "sum cpu{!=}", "sum cpu{a!=}", "sum cpu{,}", "sum cpu{a,}", "sum cpu{,a}", "sum cpu{a,,b}", "sum cpu{A}", "sum cpu{a=A}", "sum cpu{a=**}", "sum cpu{a*}", "sum cpu{a!=x*}", "sum cpu{a==1}", "sum cpu{a!}", "sum cpu{abcdefghijklm}", "sum cpu{a=0123456789.-_}", "sum cpu{a,b,c,d,E}", "sum cpu{a,b,c,d,}", "sum cpu{\xff}", "sum cpu{a,b,c,d,e}}", "sum cpu{{a,b,c,d,e}",
		// what stands behind by
		"sum cpu by ,", "sum cpu by a,", "sum cpu by ,a", "sum cpu by a,,b", "sum cpu by ,a,", "sum cpu by A", "sum cpu by 9", "sum cpu by _", "sum cpu by a=1", "sum cpu by a.b", "sum cpu by {a}", "sum cpu by a}", "sum cpu by a;b", "sum cpu by abcdefghijklm", "sum cpu by a,B", "sum cpu by \xff", "sum cpu by a\n", "sum cpu{a} by a{b}",
	} {
		checkParse(t, s, api.Query{}, api.ErrForm)
	}
}

// P7.1: Parse, by hand: the other errors, and which one is asked where more than one applies.
func TestParseErrors(t *testing.T) {
	for s, e := range map[string]api.Errno{
		"sum cpu{a,b,c,d,e}":                api.ErrMany,
		"sum cpu{a,a,a,a,a}":                api.ErrMany,
		"sum cpu{a=1,b!=2,c=x*,d,e=*} by a": api.ErrMany,
		"sum cpu by a,b,c,d,e":              api.ErrMany,
		"sum cpu{a} by e,d,c,b,a":           api.ErrMany,
		"sum cpu by a,a":                    api.ErrTwice,
		"sum cpu by a,b,a":                  api.ErrTwice,
		"sum cpu by a,b,b":                  api.ErrTwice,
		"sum cpu by a,b,c,a":                api.ErrTwice,
		"sum cpu by d,a,b,a":                api.ErrTwice,
		"sum cpu{a,a} by by,by":             api.ErrTwice,
		// how many words, and the third one, ahead of all else
		"sum cpu{a,b,c,d,e} by":         api.ErrForm,
		"sum cpu{a,b,c,d,e} on a":       api.ErrForm,
		"sum cpu on a,a":                api.ErrForm,
		"sum cpu on a,b,c,d,e":          api.ErrForm,
		"sum cpu{a,b,c,d,e} by a,a b":   api.ErrForm,
		"sum cpu by a,b,c,d,e f":        api.ErrForm,
		"sum cpu{a,b,c,d,e} by a,a b,b": api.ErrForm,
		// the first word ahead of the second one and the fourth one
		"avg cpu{a,b,c,d,e}":      api.ErrForm,
		"avg cpu by a,a":          api.ErrForm,
		"avg cpu by a,b,c,d,e":    api.ErrForm,
		"avg cpu{a,b,c,d,e} by A": api.ErrForm,
		// in the second one brackets and name ahead of the matches, and these in their order
		"sum 9{a,b,c,d,e}":    api.ErrForm,
		"sum {a,b,c,d,e}":     api.ErrForm,
		"sum cpu{a,b,c,d,e":   api.ErrForm,
		"sum cpu{a,b,c,d,e}a": api.ErrForm,
		"sum cpu{a,b,c,d,e,}": api.ErrForm,
		"sum cpu{a,b,c,d,9}":  api.ErrForm,
		// the second word ahead of the fourth one
		"sum 9 by a,a":                      api.ErrForm,
		"sum 9 by a,b,c,d,e":                api.ErrForm,
		"sum cpu{} by a,a":                  api.ErrForm,
		"sum cpu{ by a,b,c,d,e":             api.ErrForm,
		"sum cpu{a=} by a,a":                api.ErrForm,
		"sum cpu{a=} by a,b,c,d,e":          api.ErrForm,
		"sum cpu{a,b,c,d,e} by 9":           api.ErrMany,
		"sum cpu{a,b,c,d,e} by ,":           api.ErrMany,
		"sum cpu{a,b,c,d,e} by a,a":         api.ErrMany,
		"sum cpu{a,b,c,d,e} by a,b,c,d,e,f": api.ErrMany,
		// in the fourth one form ahead of many, many ahead of twice, form ahead of twice
		"sum cpu by a,b,c,d,E":   api.ErrForm,
		"sum cpu by A,b,c,d,e":   api.ErrForm,
		"sum cpu by a,b,,d,e":    api.ErrForm,
		"sum cpu by a,b,c,d,e,":  api.ErrForm,
		"sum cpu by ,a,b,c,d,e":  api.ErrForm,
		"sum cpu by a,b,c,d,":    api.ErrForm,
		"sum cpu by ,,,,":        api.ErrForm,
		"sum cpu by a,a,c,d,e":   api.ErrMany,
		"sum cpu by a,b,c,d,a":   api.ErrMany,
		"sum cpu by a,a,a,a,a,a": api.ErrMany,
		"sum cpu by a,a,B":       api.ErrForm,
		"sum cpu by a,a,":        api.ErrForm,
		"sum cpu by A,A":         api.ErrForm,
		"sum cpu by a,a,c,d,E":   api.ErrForm,
	} {
		checkParse(t, s, api.Query{}, e)
	}
	many := strings.Repeat("a,", 5000)
	checkParse(t, "sum cpu{"+many+"a}", api.Query{}, api.ErrMany)
	checkParse(t, "sum cpu{"+many+"}", api.Query{}, api.ErrForm)
	checkParse(t, "sum cpu by "+many+"a", api.Query{}, api.ErrMany)
	checkParse(t, "sum cpu by "+many, api.Query{}, api.ErrForm)
	checkParse(t, strings.Repeat("sum ", 5000), api.Query{}, api.ErrForm)
	checkParse(t, "sum cpu"+strings.Repeat("{", 5000)+strings.Repeat("}", 5000), api.Query{}, api.ErrForm)
	blanks := strings.Repeat(" ", 5000)
	checkParse(t, blanks+"sum"+blanks+"cpu"+blanks+"by"+blanks+"a"+blanks, ask(2, "cpu", nil, "a"), api.OK)
}

// P7.1: Fits, by hand: the name, and what the tags must be; neither the agg nor By counts.
func TestFits(t *testing.T) {
	for _, x := range []struct {
		q    api.Query
		k    api.Key
		want bool
	}{
		{ask(2, "cpu", nil), series("cpu"), true},
		{ask(2, "cpu", nil), series("cpu", "a", "1"), true},
		{ask(2, "cpu", nil), series("mem"), false},
		{ask(2, "cpu", nil), series("cp"), false},
		{ask(2, "cpu", nil), series("cpus"), false},
		{ask(2, "cpu", nil), series(""), false},
		{ask(2, "cpu", all(is("a", "1"))), series("cpu", "a", "1"), true},
		{ask(2, "cpu", all(is("a", "1"))), series("mem", "a", "1"), false},
		{ask(2, "cpu", all(is("a", "1"))), series("cpu", "a", "2"), false},
		{ask(2, "cpu", all(is("a", "1"))), series("cpu"), false},
		{ask(2, "cpu", all(is("a", "1"))), series("cpu", "a", "1", "b", "2"), true},
		{ask(2, "cpu", all(not("a", "1"))), series("cpu"), true},
		{ask(2, "cpu", all(not("a", "1"))), series("mem"), false},
		{ask(2, "cpu", all(not("a", "1"))), series("cpu", "a", "1"), false},
		{ask(2, "cpu", all(prefix("a", "eu"))), series("cpu", "a", "eu-1"), true},
		{ask(2, "cpu", all(prefix("a", "eu"))), series("cpu", "a", "us-1"), false},
		{ask(2, "cpu", all(has("a"))), series("cpu", "a", "eu-1"), true},
		{ask(2, "cpu", all(has("a"))), series("cpu", "b", "eu-1"), false},
		{ask(2, "cpu", all(has("a"), is("b", "2"))), series("cpu", "a", "1", "b", "2"), true},
		{ask(2, "cpu", all(has("a"), is("b", "2"))), series("cpu", "a", "1", "b", "3"), false},
		{ask(2, "cpu", all(is("b", "2"), has("a"))), series("cpu", "b", "2"), false},
		{ask(2, "cpu", nil, "zone"), series("cpu"), true},
		{ask(2, "cpu", all(has("a")), "zone"), series("cpu", "a", "1"), true},
		{ask(2, "cpu", all(has("a")), "a"), series("cpu", "zone", "1"), false},
		// what may not be
		{api.Query{}, api.Key{}, true},
		{api.Query{}, series("", "A", "?"), true},
		{api.Query{}, series("cpu"), false},
		{ask(0, "cpu", nil), series("cpu"), true},
		{ask(-1, "C", all(is("A", "*")), "", ""), series("C", "A", "*"), true},
		{ask(-1, "C", all(is("A", "*"))), series("c", "A", "*"), false},
		{ask(2, "cpu", all(match(5, "a", "1"))), series("cpu", "a", "1"), false},
		{ask(2, "cpu", all(api.Match{})), series("cpu"), false},
		{ask(2, "cpu", all(is("a", "1"))), series("cpu", "a", "2", "a", "1"), false},
		{ask(2, "cpu", all(has("a"), has("a"), has("a"), has("a"), has("b"))), series("cpu", "a", "1"), false},
		{ask(2, "cpu", all(has("a"), has("a"), has("a"), has("a"), has("b"))), series("cpu", "b", "1", "a", "1"), true},
	} {
		if got := Fits(x.q, x.k); got != x.want {
			t.Errorf("Fits(%v, %v) = %v", x.q, x.k, got)
		}
	}
}

// P7.1: Group, by hand: by By and the tags alone.
func TestGroup(t *testing.T) {
	tags := []string{"a", "1", "b", "2", "c", "3", "d", "4"}
	for _, x := range []struct {
		by   []string
		k    api.Key
		want string
	}{
		{nil, series("cpu"), ""},
		{nil, series("cpu", tags...), ""},
		{[]string{}, series("cpu", tags...), ""},
		{[]string{"a"}, series("cpu"), ""},
		{[]string{"a"}, series("cpu", tags...), "a=1"},
		{[]string{"d"}, series("cpu", tags...), "d=4"},
		{[]string{"b", "c"}, series("cpu", tags...), "b=2,c=3"},
		{[]string{"c", "b"}, series("cpu", tags...), "b=2,c=3"},
		{[]string{"d", "a"}, series("cpu", tags...), "a=1,d=4"},
		{[]string{"a", "b", "c", "d"}, series("cpu", tags...), "a=1,b=2,c=3,d=4"},
		{[]string{"d", "c", "b", "a"}, series("cpu", tags...), "a=1,b=2,c=3,d=4"},
		{[]string{"x"}, series("cpu", tags...), ""},
		{[]string{"x", "y"}, series("cpu", tags...), ""},
		{[]string{"x", "b", "y"}, series("cpu", tags...), "b=2"},
		{[]string{"zone", "dc"}, series("cpu", "dc", "x", "zone", "eu-1"), "dc=x,zone=eu-1"},
		{[]string{"zone", "dc"}, series("cpu", "zone", "eu-1"), "zone=eu-1"},
		{[]string{"aa", "1", "cpu", "A"}, series("cpu", tags...), ""},
		// what may not be
		{[]string{"a", "a"}, series("cpu", tags...), "a=1"},
		{[]string{"b", "a", "b", "a", "b"}, series("cpu", tags...), "a=1,b=2"},
		{[]string{"e", "d", "c", "b", "a"}, series("cpu", tags...), "a=1,b=2,c=3,d=4"},
		{[]string{"a,b"}, series("cpu", tags...), ""},
		{[]string{""}, series("cpu", tags...), ""},
		{[]string{"", "A"}, series("", "A", "", "", "?"), "A=,=?"},
		{[]string{"a", "b"}, series("9", "b", "1", "a", "2"), "b=1,a=2"},
		{[]string{"a"}, series("cpu", "a", "2", "b", "3", "a", "1", "a", "2"), "a=2,a=1,a=2"},
	} {
		for _, q := range []api.Query{ask(2, "cpu", nil, x.by...), ask(2, "mem", all(is("a", "7")), x.by...), {By: x.by}} {
			if got := Group(q, x.k); got != x.want {
				t.Errorf("Group(%v, %v) = %q, want %q", q, x.k, got, x.want)
			}
		}
	}
}

// P7.1: Same, by hand, of each two of these: they differ in one part alone, or in more.
func TestSame(t *testing.T) {
	several := []api.Query{
		{},
		ask(2, "cpu", all(is("a", "1")), "zone", "dc"),
		ask(1, "cpu", all(is("a", "1")), "zone", "dc"),
		ask(0, "cpu", all(is("a", "1")), "zone", "dc"),
		ask(258, "cpu", all(is("a", "1")), "zone", "dc"),
		ask(-2, "cpu", all(is("a", "1")), "zone", "dc"),
		ask(2, "mem", all(is("a", "1")), "zone", "dc"),
		ask(2, "CPU", all(is("a", "1")), "zone", "dc"),
		ask(2, "", all(is("a", "1")), "zone", "dc"),
		ask(2, "cpu", nil, "zone", "dc"),
		ask(2, "cpu", all(not("a", "1")), "zone", "dc"),
		ask(2, "cpu", all(is("b", "1")), "zone", "dc"),
		ask(2, "cpu", all(is("a", "2")), "zone", "dc"),
		ask(2, "cpu", all(is("a", "1"), is("a", "1")), "zone", "dc"),
		ask(2, "cpu", all(api.Match{}), "zone", "dc"),
		ask(2, "cpu", all(is("a", "1"))),
		ask(2, "cpu", all(is("a", "1")), "zone"),
		ask(2, "cpu", all(is("a", "1")), "dc", "zone"),
		ask(2, "cpu", all(is("a", "1")), "zone", "dc", "dc"),
		ask(2, "cpu", all(is("a", "1")), "zone", "zone"),
		ask(2, "cpu", all(is("a", "1")), "zone,dc"),
		ask(2, "cpu", all(is("a", "1")), "zone", "DC"),
		ask(2, "cpu", all(is("a", "1")), ""),
		ask(2, "cpu", all(is("a", "1"), not("b", "2"))),
		ask(2, "cpu", all(not("b", "2"), is("a", "1"))),
		ask(2, "cpu", nil),
		ask(2, "cpu", all(has("a"))),
		ask(2, "cpu", nil, "a"),
	}
	for i, a := range several {
		for j, b := range several {
			if got := Same(a, copied(b)); got != (i == j) {
				t.Errorf("Same(%v, %v) = %v", a, b, got)
			}
		}
	}
	bare := []api.Query{{Match: nil, By: nil}, {Match: []api.Match{}, By: nil}, {Match: nil, By: []string{}}, {Match: []api.Match{}, By: []string{}}}
	for _, a := range bare {
		for _, b := range bare {
			if !Same(a, b) {
				t.Errorf("Same(%#v, %#v) = false", a, b)
			}
		}
	}
}

// someMatches and someNames are such as may be and such as may not.
var (
	someMatches = all(is("a", "1"), not("b", "2"), prefix("a", ""), has("b"), is("a", ""), match(5, "a", "1"))
	someNames   = []string{"a", "b", "c", "d", "by", ""}
)

// P7.1, P7.2: aggs and names that are right and wrong, with all lists of at most 2 of some matches and of at most 2 of some names; and all lists of at most 5 of the ones, and of the others.
func TestAllShortQueries(t *testing.T) {
	right := 0
	check := func(q api.Query) {
		checkQuery(t, q, wantRight(q), wantText(q))
		if wantRight(q) {
			right++
		}
	}
	for agg := -1; agg <= 5; agg++ {
		for _, name := range []string{"a", "by", "9", ""} {
			lists.EachShort(someMatches, 2, func(l []api.Match) {
				lists.EachShort(someNames, 2, func(by []string) { check(ask(agg, name, l, by...)) })
			})
		}
	}
	// four aggs, two names, at most two of four matches, at most two of five names, no two alike
	if want := 4 * 2 * (1 + 4 + 16) * (1 + 5 + 20); right != want {
		t.Errorf("%d may be, want %d", right, want)
	}
	lists.EachShort(someMatches, 5, func(l []api.Match) { check(ask(2, "cpu", l, "a")) })
	lists.EachShort(someNames, 5, func(by []string) { check(ask(2, "cpu", all(has("a")), by...)) })
}

// P7.2: two that may be have one text just if they are the same.
func TestOneTextEach(t *testing.T) {
	texts := map[string]api.Query{}
	for agg := api.AggCount; agg <= api.AggMax; agg++ {
		lists.EachShort(all(is("a", "1"), not("a", "1"), prefix("a", "1"), prefix("a", ""), has("a"), has("by")), 2, func(l []api.Match) {
			lists.EachShort([]string{"a", "b", "by"}, 3, func(by []string) {
				q := ask(agg, "a", l, by...)
				if !wantRight(q) {
					return
				}
				if other, there := texts[Text(q)]; there {
					t.Errorf("%v and %v have one text, %q", q, other, Text(q))
				}
				texts[Text(q)] = q
			})
		})
	}
	if want := 4 * (1 + 6 + 36) * (1 + 3 + 6 + 6); len(texts) != want {
		t.Errorf("%d texts, want %d", len(texts), want)
	}
}

// P7.1: all lists of at most 3 of some tags, with names that are the query's and not, asked by each two of some matches, and grouped by each two of some names.
func TestAllShortTags(t *testing.T) {
	tags := lists.Tags("a", "1", "a", "12", "b", "2", "by", "x", "", "1")
	lists.EachShort(tags, 3, func(l []api.Tag) {
		for _, name := range []string{"cpu", "a"} {
			k := api.Key{Name: name, Tags: l}
			lists.EachShort(someMatches, 2, func(m []api.Match) {
				if q := ask(2, "cpu", m); Fits(q, k) != wantFits(q, k) {
					t.Errorf("Fits(%v, %v) = %v", q, k, Fits(q, k))
				}
			})
			lists.EachShort(someNames, 2, func(by []string) {
				if q := ask(2, "cpu", nil, by...); Group(q, k) != wantGroup(q, k) {
					t.Errorf("Group(%v, %v) = %q, want %q", q, k, Group(q, k), wantGroup(q, k))
				}
			})
		}
	})
}

// P7.1, P7.2: all short texts of pieces that matter, as they stand and behind what is right.
func TestAllShortTexts(t *testing.T) {
	check := func(s string) {
		want, e := wantParse(s)
		checkParse(t, s, want, e)
	}
	lists.EachShort([]string{"sum", "by", "a", "a{b}", " ", ",", "A"}, 6, func(l []string) { check(strings.Join(l, "")) })
	lists.EachShort([]string{"a", "b", "{", "}", ",", "=", " by "}, 5, func(l []string) { check("min a" + strings.Join(l, "")) })
	lists.EachShort([]string{"sum", "max", "by", "a", "a,b", "a{b}", "a{"}, 5, func(l []string) { check(strings.Join(l, " ")) })
	lists.EachShort([]string{"a", "b", "c", "d", "e", "E"}, 5, func(l []string) {
		check("sum cpu{" + strings.Join(l, ",") + "}")
		check("sum cpu by " + strings.Join(l, ","))
		check("sum cpu{a,b,c,d,e} by " + strings.Join(l, ","))
	})
}

// P7.1: what was handed in is as it was, its spare room too.
func TestWhatIsHandedInStays(t *testing.T) {
	matches := all(has("c"), is("a", "1"), not("b", "3"), prefix("spare", "4"), is("a", "5"), has("room"))
	names := []string{"c", "a", "b", "spare", "a", "room"}
	tags := lists.Tags("c", "1", "a", "1", "b", "2", "spare", "4", "a", "5", "room", "6")
	matchesWere, namesWere, tagsWere := slices.Clone(matches), slices.Clone(names), slices.Clone(tags)
	whole := ask(2, "cpu", matches, names...)
	for n := range len(names) + 1 {
		q, k := ask(2, "cpu", matches[:n], names[:n]...), api.Key{Name: "cpu", Tags: tags[:n]}
		Right(q)
		Text(q)
		Fits(q, k)
		Group(q, k)
		Same(q, whole)
		Same(whole, q)
		if !slices.Equal(matches, matchesWere) || !slices.Equal(names, namesWere) || !slices.Equal(tags, tagsWere) {
			t.Fatalf("behind calls with %d there are %v, %q, %v", n, matches, names, tags)
		}
	}
}

// P7.1: a call hangs on its arguments alone: who writes into an answer changes no later one.
func TestNothingIsKept(t *testing.T) {
	s, want := "sum cpu{a=1,b} by zone,dc", ask(2, "cpu", all(is("a", "1"), has("b")), "zone", "dc")
	for range 2 {
		q, e := Parse(s)
		if e != api.OK || !equal(q, want) {
			t.Fatalf("Parse(%q) = %v, %d", s, q, e)
		}
		clear(q.Match[:cap(q.Match)])
		clear(q.By[:cap(q.By)])
	}
}

// P7.1, P7.2: the same for whatever a fuzzer finds.
func FuzzTexts(f *testing.F) {
	for _, s := range []string{"", "count cpu", "sum cpu{a=1} by zone,dc", " min  a{b,c!=2,d=x*} by by ", "max a{a,b,c,d,e}", "sum a by a,a", "sum a by a,b,c,d,e", "sum a{} by ,", "sum }{ on \xff"} {
		f.Add(s, 2, "b=1")
	}
	f.Fuzz(func(t *testing.T, s string, agg int, words string) {
		want, e := wantParse(s)
		checkParse(t, s, want, e)
		parts := strings.FieldsFunc(words, func(r rune) bool { return strings.ContainsRune("{,=}", r) })
		q := ask(agg, s, nil, parts...)
		for i, part := range parts {
			q.Match = append(q.Match, match(i, part, s))
		}
		checkQuery(t, q, wantRight(q), wantText(q))
		if !Same(q, copied(q)) || Same(q, want) != equal(q, want) {
			t.Errorf("Same(%v, %v) = %v", q, want, Same(q, want))
		}
	})
}
