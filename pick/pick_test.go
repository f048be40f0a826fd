package pick

import (
	"regexp"
	"slices"
	"strings"
	"testing"

	"ebbtide/api"
	"ebbtide/lists"
)

var tags = lists.Tags

// match makes one, that may be or not.
func match(kind int, name, value string) api.Match {
	return api.Match{Kind: kind, Name: name, Value: value}
}

// One of each kind.
func is(name, value string) api.Match     { return match(api.MatchIs, name, value) }
func not(name, value string) api.Match    { return match(api.MatchNot, name, value) }
func prefix(name, value string) api.Match { return match(api.MatchPrefix, name, value) }
func has(name string) api.Match           { return match(api.MatchHas, name, "") }

// all makes a list.
func all(l ...api.Match) []api.Match { return l }

// goodPart is what a match's text must look like, told by other means: a pattern of bytes.
var goodPart = regexp.MustCompile(`\A([a-z][a-z0-9_]{0,11})(?:(!?=)([a-z0-9_.-]{1,12})|(=)([a-z0-9_.-]{0,12})\*)?\z`)

// goodMatch is what a match's kind, name and value must look like, a blank between two.
var goodMatch = regexp.MustCompile(`\A([12] [a-z][a-z0-9_]{0,11} [a-z0-9_.-]{1,12}|3 [a-z][a-z0-9_]{0,11} [a-z0-9_.-]{0,12}|4 [a-z][a-z0-9_]{0,11} )\z`)

// wantRight is what Right must answer.
func wantRight(l []api.Match) bool {
	for _, m := range l {
		if m.Kind < 1 || m.Kind > 9 || !goodMatch.MatchString("0123456789"[m.Kind:m.Kind+1]+" "+m.Name+" "+m.Value) {
			return false
		}
	}
	return len(l) <= 4
}

// wantFits is what Fits must answer, told by other means: values stand in a map, the first tag of a name laid over those behind it.
func wantFits(tags []api.Tag, l []api.Match) bool {
	first := map[string]string{}
	for _, one := range slices.Backward(tags) {
		first[one.Name] = one.Value
	}
	for _, m := range l {
		v, there := first[m.Name]
		fits := map[int]bool{
			1: there && v == m.Value,
			2: !there || v != m.Value,
			3: there && strings.Index(v, m.Value) == 0,
			4: there,
		}
		if !fits[m.Kind] {
			return false
		}
	}
	return true
}

// wantText is what Text must answer, byte by byte.
func wantText(l []api.Match) string {
	var b []byte
	for i, m := range l {
		if i > 0 {
			b = append(b, ',')
		}
		b = append(b, m.Name...)
		if m.Kind == 2 {
			b = append(b, '!')
		}
		if 1 <= m.Kind && m.Kind <= 3 {
			b = append(b, '=')
			b = append(b, m.Value...)
		}
		if m.Kind == 3 {
			b = append(b, '*')
		}
	}
	return string(b)
}

// wantParse is what Parse must answer: whatever part isn't of the form comes ahead of how many there are.
func wantParse(s string) ([]api.Match, api.Errno) {
	if s == "" {
		return nil, api.OK
	}
	var l []api.Match
	for part := range strings.SplitSeq(s, ",") {
		found := goodPart.FindStringSubmatch(part)
		if found == nil {
			return nil, api.ErrForm
		}
		switch {
		case found[2] == "=":
			l = append(l, is(found[1], found[3]))
		case found[2] == "!=":
			l = append(l, not(found[1], found[3]))
		case found[4] == "=":
			l = append(l, prefix(found[1], found[5]))
		default:
			l = append(l, has(found[1]))
		}
	}
	if len(l) > 4 {
		return nil, api.ErrMany
	}
	return l, api.OK
}

// checkParse holds Parse of s against what is wanted, and what it answers against its own text.
func checkParse(t *testing.T, s string, want []api.Match, e api.Errno) {
	t.Helper()
	l, f := Parse(s)
	if f != e || !slices.Equal(l, want) {
		t.Errorf("Parse(%q) = %v, %d, want %v, %d", s, l, f, want, e)
	}
	if f == api.OK && (!Right(l) || Text(l) != s) {
		t.Errorf("Parse(%q) = %v: may it be? %v; its text is %q", s, l, Right(l), Text(l))
	}
}

// checkMatches holds Right and Text of l against what is wanted; those that may be come back from their text.
func checkMatches(t *testing.T, l []api.Match, right bool, text string) {
	t.Helper()
	was := slices.Clone(l)
	if got := Right(l); got != right {
		t.Errorf("Right(%v) = %v", l, got)
	}
	if got := Text(l); got != text {
		t.Errorf("Text(%v) = %q, want %q", l, got, text)
	}
	if again, e := Parse(text); right && (e != api.OK || !slices.Equal(again, l)) {
		t.Errorf("Parse(%q) = %v, %d, want %v", text, again, e, l)
	}
	if !slices.Equal(l, was) {
		t.Errorf("%v became %v", was, l)
	}
}

// P5.1, P5.2: Right and Text, by hand, of matches that may be; they come back from their text.
func TestRight(t *testing.T) {
	for _, x := range []struct {
		l    []api.Match
		text string
	}{
		{nil, ""},
		{[]api.Match{}, ""},
		{all(is("a", "1")), "a=1"},
		{all(not("a", "1")), "a!=1"},
		{all(prefix("a", "1")), "a=1*"},
		{all(prefix("a", "")), "a=*"},
		{all(has("a")), "a"},
		{all(is("a", "1"), not("b", "2"), prefix("c", "x"), has("d")), "a=1,b!=2,c=x*,d"},
		{all(has("d"), prefix("c", ""), not("b", "2"), is("a", "1")), "d,c=*,b!=2,a=1"},
		{all(is("a", "1"), is("a", "1"), not("a", "1"), is("a", "2")), "a=1,a=1,a!=1,a=2"},
		{all(has("a"), has("a"), has("a"), has("a")), "a,a,a,a"},
		{all(is("abcdefghijkl", "0123456789.-")), "abcdefghijkl=0123456789.-"},
		{all(not("abcdefghijkl", "0123456789.-")), "abcdefghijkl!=0123456789.-"},
		{all(prefix("abcdefghijkl", "0123456789.-")), "abcdefghijkl=0123456789.-*"},
		{all(has("abcdefghijkl")), "abcdefghijkl"},
		{all(is("a_9", "_"), prefix("z", "-")), "a_9=_,z=-*"},
	} {
		checkMatches(t, x.l, true, x.text)
	}
}

// P5.1: Right and Text, by hand, of matches that may not be.
func TestNotRight(t *testing.T) {
	for _, x := range []struct {
		l    []api.Match
		text string
	}{
		// five
		{all(has("a"), has("b"), has("c"), has("d"), has("e")), "a,b,c,d,e"},
		{all(is("a", "1"), not("b", "2"), prefix("c", "x"), has("d"), is("a", "1")), "a=1,b!=2,c=x*,d,a=1"},
		// the name
		{all(is("", "1")), "=1"},
		{all(not("", "1")), "!=1"},
		{all(prefix("", "1")), "=1*"},
		{all(prefix("", "")), "=*"},
		{all(has("")), ""},
		{all(has(""), has("")), ","},
		{all(is("A", "1")), "A=1"},
		{all(not("9", "1")), "9!=1"},
		{all(prefix("_a", "1")), "_a=1*"},
		{all(has("a.b")), "a.b"},
		{all(has("a-")), "a-"},
		{all(has("a=1")), "a=1"},
		{all(has("a,b")), "a,b"},
		{all(has("abcdefghijklm")), "abcdefghijklm"},
		{all(is("abcdefghijklm", "1")), "abcdefghijklm=1"},
		{all(is("a!", "1")), "a!=1"},
		{all(is("\xff", "1")), "\xff=1"},
		// the value
		{all(is("a", "")), "a="},
		{all(not("a", "")), "a!="},
		{all(is("a", "A")), "a=A"},
		{all(not("a", "A")), "a!=A"},
		{all(prefix("a", "A")), "a=A*"},
		{all(is("a", "x*")), "a=x*"},
		{all(not("a", "x*")), "a!=x*"},
		{all(prefix("a", "*")), "a=**"},
		{all(is("a", "0123456789.-_")), "a=0123456789.-_"},
		{all(not("a", "0123456789.-_")), "a!=0123456789.-_"},
		{all(prefix("a", "0123456789.-_")), "a=0123456789.-_*"},
		{all(is("a", "1,b=2")), "a=1,b=2"},
		{all(match(api.MatchHas, "a", "1")), "a"},
		{all(match(api.MatchHas, "a", "*")), "a"},
		// another kind
		{all(api.Match{}), ""},
		{all(match(0, "a", "")), "a"},
		{all(match(0, "a", "1")), "a"},
		{all(match(5, "a", "")), "a"},
		{all(match(5, "a", "1")), "a"},
		{all(match(-1, "a", "1")), "a"},
		{all(match(257, "a", "1")), "a"},
		{all(match(9, "?", "!")), "?"},
		{all(match(-1<<63, "a", "")), "a"},
		{all(match(1<<63-1, "a", "")), "a"},
		// one that may not be, beside others that may
		{all(is("a", "1"), not("b", "2"), prefix("c", "x"), match(5, "d", "")), "a=1,b!=2,c=x*,d"},
		{all(is("A", "1"), not("b", "2"), prefix("c", "x"), has("d")), "A=1,b!=2,c=x*,d"},
		{all(has("a"), has("B"), has("c")), "a,B,c"},
		{all(match(0, "a", "1"), match(2, "", ""), match(3, "", "")), "a,!=,=*"},
	} {
		checkMatches(t, x.l, false, x.text)
	}
}

// P5.1: Fits, by hand: matches of each kind, of tags that have the name, that have it twice, that don't have it.
func TestFits(t *testing.T) {
	two := tags("a", "eu-1", "b", "2")
	twice := tags("a", "1", "a", "2", "b", "3")
	bare := tags("a", "", "", "x")
	for _, x := range []struct {
		tags []api.Tag
		l    []api.Match
		want bool
	}{
		// no matches, no tags
		{nil, nil, true}, {two, nil, true},
		{nil, all(is("a", "1")), false}, {nil, all(not("a", "1")), true}, {nil, all(prefix("a", "1")), false}, {nil, all(prefix("a", "")), false}, {nil, all(has("a")), false},
		{nil, all(is("a", "")), false}, {nil, all(not("a", "")), true}, {nil, all(is("", "")), false}, {nil, all(not("", "")), true}, {nil, all(has("")), false},
		// a name that is there
		{two, all(is("a", "eu-1")), true}, {two, all(is("a", "eu-2")), false}, {two, all(is("a", "eu-")), false}, {two, all(is("a", "eu-12")), false}, {two, all(is("a", "")), false}, {two, all(is("a", "2")), false},
		{two, all(not("a", "eu-1")), false}, {two, all(not("a", "eu-2")), true}, {two, all(not("a", "eu-")), true}, {two, all(not("a", "eu-12")), true}, {two, all(not("a", "")), true}, {two, all(not("a", "2")), true},
		{two, all(prefix("a", "")), true}, {two, all(prefix("a", "e")), true}, {two, all(prefix("a", "eu-1")), true}, {two, all(prefix("a", "eu-12")), false}, {two, all(prefix("a", "u")), false}, {two, all(prefix("a", "-1")), false}, {two, all(prefix("a", "2")), false},
		{two, all(has("a")), true}, {two, all(match(api.MatchHas, "a", "2")), true},
		// a name that no tag has
		{two, all(is("c", "1")), false}, {two, all(not("c", "1")), true}, {two, all(prefix("c", "1")), false}, {two, all(prefix("c", "")), false}, {two, all(has("c")), false}, {two, all(match(api.MatchHas, "c", "2")), false},
		{two, all(is("c", "")), false}, {two, all(not("c", "")), true}, {two, all(has("eu-1")), false}, {two, all(has("")), false},
		// two tags of one name: the first one's value
		{twice, all(is("a", "1")), true}, {twice, all(is("a", "2")), false}, {twice, all(not("a", "1")), false}, {twice, all(not("a", "2")), true}, {twice, all(prefix("a", "2")), false}, {twice, all(prefix("a", "1")), true}, {twice, all(has("a")), true},
		{twice, all(is("a", "1"), is("a", "2")), false}, {twice, all(is("a", "1"), not("a", "2")), true},
		// names and values that may not be
		{bare, all(is("a", "")), true}, {bare, all(not("a", "")), false}, {bare, all(prefix("a", "")), true}, {bare, all(prefix("a", "x")), false}, {bare, all(has("a")), true}, {bare, all(is("a", "x")), false},
		{bare, all(is("", "x")), true}, {bare, all(not("", "x")), false}, {bare, all(prefix("", "")), true}, {bare, all(has("")), true},
		{tags("A", "x*"), all(is("A", "x*")), true}, {tags("A", "x*"), all(prefix("A", "x*")), true}, {tags("A", "xy"), all(is("A", "x*")), false}, {tags("A", "\xff"), all(prefix("A", "\xff")), true},
		// each of them
		{two, all(has("a"), is("b", "2")), true}, {two, all(has("a"), is("b", "3")), false}, {two, all(is("b", "3"), has("a")), false}, {two, all(has("a"), has("b"), has("a"), has("c")), false},
		{two, all(is("a", "eu-1"), not("b", "3"), prefix("a", "eu"), has("b")), true}, {two, all(is("a", "eu-1"), not("a", "eu-1")), false},
		{two, all(has("a"), has("b"), has("a"), has("b"), has("a")), true}, {two, all(has("a"), has("b"), has("a"), has("b"), has("c")), false},
		// another kind
		{two, all(api.Match{}), false}, {two, all(match(0, "a", "eu-1")), false}, {two, all(match(5, "a", "eu-1")), false}, {two, all(match(9, "a", "")), false}, {two, all(match(-1, "c", "")), false}, {nil, all(match(5, "a", "1")), false},
		{two, all(match(257, "a", "eu-1")), false}, {two, all(has("a"), match(5, "a", "eu-1")), false}, {two, all(match(5, "a", "eu-1"), has("a")), false}, {two, all(match(-1<<63, "a", "")), false},
	} {
		if got := Fits(x.tags, x.l...); got != x.want {
			t.Errorf("Fits(%q, %v) = %v", x.tags, x.l, got)
		}
	}
	if !Fits(two) || !Fits(nil) {
		t.Error("tags don't fit no matches")
	}
}

// P5.1, P5.2: Parse, by hand: texts that are right.
func TestParse(t *testing.T) {
	for s, want := range map[string][]api.Match{
		"":                nil,
		"a":               all(has("a")),
		"a=1":             all(is("a", "1")),
		"a!=1":            all(not("a", "1")),
		"a=1*":            all(prefix("a", "1")),
		"a=*":             all(prefix("a", "")),
		"a=1,b!=2,c=x*,d": all(is("a", "1"), not("b", "2"), prefix("c", "x"), has("d")),
		"d,c=x*,b!=2,a=1": all(has("d"), prefix("c", "x"), not("b", "2"), is("a", "1")),
		"a,a,a=a,a!=a":    all(has("a"), has("a"), is("a", "a"), not("a", "a")),
		"a=-,b=.,c=_*":    all(is("a", "-"), is("b", "."), prefix("c", "_")),
		"abcdefghijkl=0123456789.-*,abcdefghijkl": all(prefix("abcdefghijkl", "0123456789.-"), has("abcdefghijkl")),
	} {
		checkParse(t, s, want, api.OK)
	}
}

// P5.1: Parse, by hand: texts that are wrong, and which error is asked where more than one applies.
func TestParseErrors(t *testing.T) {
	for _, s := range []string{
		// nothing between two commas, ahead of one, behind one
		",", ",,", "a,", ",a", "a,,b", "a=1,", ",a=1", "a=1,,b=2",
		// no name, or none that may be
		"=", "!=", "=1", "!=1", "=*", "!=*", "=1*", "!", "A", "A=1", "A!=1", "A=1*", "9", "_", "a.b", "a-b=1", " ", "a ", " a", "a b", "abcdefghijklm", "abcdefghijklm=1", "abcdefghijklm!=1", "abcdefghijklm=*", "\xff", "a\n",
		// no value, or none that may be
		"a=", "a!=", "a=A", "a!=A", "a=A*", "a= ", "a=1 ", "a= 1", "a=0123456789.-_", "a!=0123456789.-_", "a=0123456789.-_*", "a=\xff", "a=1\n",
		// more than one =
		"a==", "a==1", "a=1=2", "a=1=", "a==*", "a=1=2*", "a=b=c=d",
		// != and = in either order, ! without = behind it
		"a!==1", "a!=1=2", "a!=1!=2", "a!=!=1", "a=1!=2", "a=!=1", "a=!=", "a==!=1", "a!=b=*", "a=b!=*", "a!", "a!1", "a=!1", "a=1!", "a! =1", "!a=1", "!a", "a!!=1", "a=!", "a=!*", "a!*",
		// a * at the end twice, without =, behind !=; elsewhere
		"a=**", "a=1**", "a=***", "*", "**", "a*", "a**", "a!=*", "a!=x*", "a!=**", "*=1", "*=*", "a*=1", "a*=*", "a=*1", "a=*1*", "a=1*2", "a=* ", "a=*=", "a=*=*", "a*=",
		// one that is wrong beside others that are right, wherever it stands
		"A,b=1,c", "a,b=,c", "a,b=1,c!", "a=1;b=2", "a=1, b=2", "a=1 b=2",
		// form ahead of many
		"a,b,c,d,E", "A,b,c,d,e", "a,b,c,d,", ",a,b,c,d", "a,b,c,d,e,", ",,,,", "a=1,b=1,c=1,d=1,e=", "a,b,C,d,e,f,g", "a,b,c,d,e!=x*",
	} {
		checkParse(t, s, nil, api.ErrForm)
	}
	for _, s := range []string{"a,b,c,d,e", "a,a,a,a,a", "a=1,b!=2,c=x*,d,e", "a=*,a=*,a=*,a=*,a=*", "a,b,c,d,e,f", "a=1,a=1,a=1,a=1,a=1,a=1,a=1"} {
		checkParse(t, s, nil, api.ErrMany)
	}
	many := strings.Repeat("a=1,", 5000)
	checkParse(t, many+"a", nil, api.ErrMany)
	checkParse(t, many, nil, api.ErrForm)
	checkParse(t, strings.Repeat("a=", 5000)+"1", nil, api.ErrForm)
	checkParse(t, "a="+strings.Repeat("*", 5000), nil, api.ErrForm)
}

// P5.1: Same, by hand, of each two of these: they differ in the kind alone, in the name alone, in the value alone, in how many there are, in their order.
func TestSame(t *testing.T) {
	several := [][]api.Match{
		nil,
		all(api.Match{}),
		all(api.Match{}, api.Match{}),
		all(is("a", "1")),
		all(not("a", "1")),
		all(prefix("a", "1")),
		all(match(api.MatchHas, "a", "1")),
		all(match(0, "a", "1")),
		all(match(5, "a", "1")),
		all(match(-1, "a", "1")),
		all(match(257, "a", "1")),
		all(has("a")),
		all(match(9, "a", "")),
		all(is("b", "1")),
		all(is("A", "1")),
		all(is("", "1")),
		all(is("a", "2")),
		all(is("a", "")),
		all(is("a", "1 ")),
		all(is("a", "1,b=2")),
		all(is("a", "1"), is("b", "2")),
		all(is("b", "2"), is("a", "1")),
		all(is("a", "1"), not("b", "2")),
		all(is("a", "1"), is("b", "3")),
		all(is("a", "1"), is("a", "1")),
		all(is("a", "1"), not("b", "2"), prefix("c", "x"), has("d")),
		all(is("a", "1"), not("b", "2"), prefix("c", "x"), has("e")),
		all(is("a", "1"), not("b", "2"), prefix("c", "x"), has("d"), has("d")),
	}
	for i, a := range several {
		for j, b := range several {
			if got := Same(a, slices.Clone(b)); got != (i == j) {
				t.Errorf("Same(%v, %v) = %v", a, b, got)
			}
		}
	}
	if !Same(nil, []api.Match{}) || !Same([]api.Match{}, nil) {
		t.Error("no matches aren't no matches")
	}
}

// someMatches are of each kind and of others, with names and values that may be and that may not.
func someMatches() []api.Match {
	var l []api.Match
	for _, kind := range []int{-1, 0, 1, 2, 3, 4, 5} {
		for _, name := range []string{"", "a", "b", "A"} {
			for _, value := range []string{"", "1", "12", "2", "*"} {
				l = append(l, match(kind, name, value))
			}
		}
	}
	return l
}

// P5.1, P5.2: each one and each two of many matches, and all lists of at most 5 of some, with their texts.
func TestAllShortLists(t *testing.T) {
	check := func(l []api.Match) { checkMatches(t, l, wantRight(l), wantText(l)) }
	lists.EachShort(someMatches(), 2, check)
	lists.EachShort(all(is("a", "1"), not("b", "2"), prefix("a", ""), prefix("c", "x"), has("d"), is("a", ""), match(5, "a", "1")), 5, check)
}

// someTags are such as may be and such as may not.
var someTags = tags("a", "1", "a", "12", "b", "2", "b", "", "A", "*", "", "1")

// P5.1: all lists of at most 3 of some tags, asked for each one of many matches, and for each two of some.
func TestAllShortTags(t *testing.T) {
	pairs := all(is("a", "1"), not("a", "1"), prefix("a", "1"), has("b"), not("b", ""), prefix("A", ""), match(0, "a", "1"))
	lists.EachShort(someTags, 3, func(l []api.Tag) {
		check := func(m []api.Match) {
			if got := Fits(l, m...); got != wantFits(l, m) {
				t.Errorf("Fits(%q, %v) = %v", l, m, got)
			}
		}
		lists.EachShort(someMatches(), 1, check)
		lists.EachShort(pairs, 2, check)
	})
}

// P5.3: tags fit MatchNot just if they don't fit MatchIs; what fits MatchIs fits MatchPrefix of each beginning of it, and that fits MatchHas.
func TestTheOtherWay(t *testing.T) {
	fit := 0
	lists.EachShort(append(tags("a", "eu-1", "b", "eu-12.x"), someTags...), 3, func(l []api.Tag) {
		for _, name := range []string{"", "a", "b", "c", "A"} {
			for _, value := range []string{"", "1", "12", "2", "*", "eu-1", "eu-12.x", "eu-12.xy"} {
				fits := Fits(l, is(name, value))
				if Fits(l, not(name, value)) == fits {
					t.Errorf("%q: %q is %q? %v, and the other way too", l, name, value, fits)
				}
				for i := range len(value) + 1 {
					begins := Fits(l, prefix(name, value[:i]))
					if fits && !begins || begins && !Fits(l, has(name)) {
						t.Errorf("%q: %q is %q? %v; begins with %q? %v; is there? %v", l, name, value, fits, value[:i], begins, Fits(l, has(name)))
					}
				}
				if fits {
					fit++
				}
			}
		}
	})
	if fit == 0 {
		t.Error("nothing fits")
	}
}

// P5.1, P5.2: all short texts of pieces that matter.
func TestAllShortTexts(t *testing.T) {
	lists.EachShort([]string{"a", "1", "=", "!", "*", ",", "A"}, 6, func(l []string) {
		s := strings.Join(l, "")
		want, e := wantParse(s)
		checkParse(t, s, want, e)
	})
	lists.EachShort([]string{"a", "b=1", "c!=2", "d=*", ",", "e="}, 6, func(l []string) {
		s := strings.Join(l, ",")
		want, e := wantParse(s)
		checkParse(t, s, want, e)
	})
}

// P5.1: what was handed in is as it was, its spare room too.
func TestWhatIsHandedInStays(t *testing.T) {
	room := all(prefix("c", "x"), is("a", "1"), has("b"), not("spare", "4"), is("a", "5"), has("room"))
	have := tags("c", "xy", "a", "1", "b", "3", "spare", "5", "a", "5", "room", "6")
	roomWas, haveWas := slices.Clone(room), slices.Clone(have)
	for n := range len(room) + 1 {
		Right(room[:n])
		Text(room[:n])
		Fits(have[:n], room...)
		Fits(have, room[:n]...)
		Same(room[:n], room)
		Same(room, room[:n])
		if !slices.Equal(room, roomWas) || !slices.Equal(have, haveWas) {
			t.Fatalf("behind calls with %d there are %v, %q", n, room, have)
		}
	}
}

// P5.1, P5.2: the same for whatever a fuzzer finds.
func FuzzTexts(f *testing.F) {
	for _, s := range []string{"", "a=1,b!=2,c=x*,d", "a,b,c,d,e", "a=*", "a!=x*", "a=1=2", "a=1!=2", "a=**", ",", "\xff=!"} {
		f.Add(s, 3)
	}
	f.Fuzz(func(t *testing.T, s string, kind int) {
		want, e := wantParse(s)
		checkParse(t, s, want, e)
		words := strings.FieldsFunc(s, func(r rune) bool { return strings.ContainsRune("!,=*", r) })
		l := tags(words...)
		for _, m := range want {
			l = append(l, api.Tag{Name: m.Name, Value: m.Value})
		}
		for i, one := range l {
			m := all(match(kind, one.Name, one.Value), match(1+i%4, one.Name, one.Value[:len(one.Value)/2]))
			checkMatches(t, m, wantRight(m), wantText(m))
			for _, asked := range [][]api.Match{m, m[:1], m[1:], want} {
				if got := Fits(l[i:], asked...); got != wantFits(l[i:], asked) {
					t.Errorf("Fits(%q, %v) = %v", l[i:], asked, got)
				}
			}
		}
	})
}
