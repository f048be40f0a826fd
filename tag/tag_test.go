package tag

import (
	"regexp"
	"slices"
	"strings"
	"testing"

	"ebbtide/api"
	"ebbtide/lists"
)

// good is what one tag's text must look like, told by other means: a pattern of bytes.
var good = regexp.MustCompile(`\A[a-z][a-z0-9_]{0,11}=[a-z0-9_.-]{1,12}\z`)

// tags makes tags of names and values, one behind the other.
var tags = lists.Tags

// wantCanon is what Canon must answer, told by other means: the least name is taken out again and again.
func wantCanon(l []api.Tag) ([]api.Tag, api.Errno) {
	names := map[string]string{}
	for _, t := range l {
		if !good.MatchString(t.Name + "=" + t.Value) {
			return nil, api.ErrForm
		}
		names[t.Name] = t.Value
	}
	if len(l) > 4 {
		return nil, api.ErrMany
	}
	if len(names) < len(l) {
		return nil, api.ErrTwice
	}
	want := []api.Tag{}
	for len(names) > 0 {
		least := ""
		for name := range names {
			if least == "" || name < least {
				least = name
			}
		}
		want = append(want, api.Tag{Name: least, Value: names[least]})
		delete(names, least)
	}
	return want, api.OK
}

// wantText is what Text must answer: byte by byte, the last comma taken away.
func wantText(l []api.Tag) string {
	b := []byte{}
	for _, t := range l {
		b = append(b, t.Name...)
		b = append(b, '=')
		b = append(b, t.Value...)
		b = append(b, ',')
	}
	return string(b[:max(0, len(b)-1)])
}

// wantParse is what Parse must answer, told by other means: a tag's text never has a comma or a second =.
func wantParse(s string) ([]api.Tag, api.Errno) {
	l := []api.Tag{}
	for s != "" {
		part, rest, more := s, "", false
		if i := strings.IndexByte(s, ','); i >= 0 {
			part, rest, more = s[:i], s[i+1:], true
		}
		if !good.MatchString(part) || more && rest == "" {
			return nil, api.ErrForm
		}
		i := strings.IndexByte(part, '=')
		l = append(l, api.Tag{Name: part[:i], Value: part[i+1:]})
		s = rest
	}
	return wantCanon(l)
}

// checkTags holds Right, Canon and Text of l against what is wanted.
func checkTags(t *testing.T, l, want []api.Tag, e api.Errno) {
	t.Helper()
	was := slices.Clone(l)
	if got, f := Canon(l); f != e || !slices.Equal(got, want) {
		t.Errorf("Canon(%q) = %q, %d, want %q, %d", l, got, f, want, e)
	}
	if got := Right(l); got != (e == api.OK && slices.Equal(l, want)) {
		t.Errorf("Right(%q) = %v", l, got)
	}
	if got := Text(l); got != wantText(l) {
		t.Errorf("Text(%q) = %q", l, got)
	}
	if !slices.Equal(l, was) {
		t.Errorf("%q became %q", was, l)
	}
}

// checkParse holds Parse of s against what is wanted, and what it answers against its own text.
func checkParse(t *testing.T, s string, want []api.Tag, e api.Errno) {
	t.Helper()
	l, f := Parse(s)
	if f != e || !slices.Equal(l, want) {
		t.Errorf("Parse(%q) = %q, %d, want %q, %d", s, l, f, want, e)
	}
	if f != api.OK {
		return
	}
	if again, g := Parse(Text(l)); !Right(l) || g != api.OK || !slices.Equal(again, l) {
		t.Errorf("Parse(%q) = %q, %d, then %q, %d", s, l, f, again, g)
	}
}

// P3.1: Right and Canon, by hand: tags that are right, in order and not.
func TestCanon(t *testing.T) {
	for _, x := range []struct{ l, want []api.Tag }{
		{nil, nil},
		{tags(), nil},
		{tags("a", "1"), tags("a", "1")},
		{tags("b", "1", "a", "2"), tags("a", "2", "b", "1")},
		{tags("a", "2", "b", "1"), tags("a", "2", "b", "1")},
		{tags("a", "1", "b", "1", "c", "1"), tags("a", "1", "b", "1", "c", "1")},
		{tags("d", "1", "c", "2", "b", "3", "a", "4"), tags("a", "4", "b", "3", "c", "2", "d", "1")},
		{tags("zone", "eu-1", "dc", "x.y", "a", "_", "b", "9"), tags("a", "_", "b", "9", "dc", "x.y", "zone", "eu-1")},
		{tags("ab", "1", "a", "1"), tags("a", "1", "ab", "1")},
		{tags("a_b", "1", "a1b", "1", "aab", "1", "a", "1"), tags("a", "1", "a1b", "1", "a_b", "1", "aab", "1")},
		{tags("host", "-", "hos", "."), tags("hos", ".", "host", "-")},
		{tags("abcdefghijkl", "0123456789.-"), tags("abcdefghijkl", "0123456789.-")},
	} {
		checkTags(t, x.l, x.want, api.OK)
	}
}

// P3.1: Right and Canon, by hand: what may not be, and which error is asked where more than one applies.
func TestCanonErrors(t *testing.T) {
	for _, x := range []struct {
		l []api.Tag
		e api.Errno
	}{
		{tags("", "1"), api.ErrForm},
		{tags("a", ""), api.ErrForm},
		{tags("", ""), api.ErrForm},
		{tags("A", "1"), api.ErrForm},
		{tags("a", "A"), api.ErrForm},
		{tags("1", "a"), api.ErrForm},
		{tags("_", "a"), api.ErrForm},
		{tags("a-b", "a"), api.ErrForm},
		{tags("a.b", "a"), api.ErrForm},
		{tags("a", "b=c"), api.ErrForm},
		{tags("a", "b,c=d"), api.ErrForm},
		{tags("a=b", "c"), api.ErrForm},
		{tags("a", " "), api.ErrForm},
		{tags("a", "\xff"), api.ErrForm},
		{tags("abcdefghijklm", "1"), api.ErrForm},
		{tags("a", "0123456789.-_"), api.ErrForm},
		{tags("a", "1", "b", "1", "c", "1", "d", "1", "e", "1"), api.ErrMany},
		{tags("e", "1", "d", "1", "c", "1", "b", "1", "a", "1"), api.ErrMany},
		{tags("a", "1", "a", "1"), api.ErrTwice},
		{tags("a", "1", "a", "2"), api.ErrTwice},
		{tags("a", "2", "a", "1"), api.ErrTwice},
		{tags("b", "1", "a", "1", "b", "1"), api.ErrTwice},
		{tags("a", "1", "b", "1", "c", "1", "a", "2"), api.ErrTwice},
		{tags("a", "1", "b", "1", "b", "1", "d", "1"), api.ErrTwice},
		{tags("a", "1", "a", "1", "a", "1", "a", "1"), api.ErrTwice},
		// form ahead of many, many ahead of twice, form ahead of twice, all three
		{tags("a", "1", "b", "1", "c", "1", "d", "1", "E", "1"), api.ErrForm},
		{tags("a", "", "b", "1", "c", "1", "d", "1", "e", "1"), api.ErrForm},
		{tags("a", "1", "a", "1", "c", "1", "d", "1", "e", "1"), api.ErrMany},
		{tags("a", "1", "a", "1", "a", "1", "a", "1", "a", "1"), api.ErrMany},
		{tags("a", "1", "a", "1", "b", ""), api.ErrForm},
		{tags("", "", "", ""), api.ErrForm},
		{tags("a", "1", "a", "1", "c", "1", "d", "1", "e", "1", "", "1"), api.ErrForm},
	} {
		checkTags(t, x.l, nil, x.e)
	}
}

// P3.1: Find and Only of names that one tag has, or two, or none, and of such as may not be.
func TestFindAndOnly(t *testing.T) {
	l := tags("b", "1", "a", "2", "b", "3", "", "empty", "A=", ",", "c", "")
	for _, x := range []struct {
		name, value string
		found       bool
		only        []api.Tag
	}{
		{"b", "1", true, tags("b", "1", "b", "3")},
		{"a", "2", true, tags("a", "2")},
		{"", "empty", true, tags("", "empty")},
		{"A=", ",", true, tags("A=", ",")},
		{"c", "", true, tags("c", "")},
		{"q", "", false, nil},
		{"A", "", false, nil},
		{"1", "", false, nil},
		{"bb", "", false, nil},
	} {
		if v, ok := Find(l, x.name); v != x.value || ok != x.found {
			t.Errorf("Find %q = %q, %v", x.name, v, ok)
		}
		if v, ok := Find(nil, x.name); v != "" || ok {
			t.Errorf("Find %q of none = %q, %v", x.name, v, ok)
		}
		if got := Only(l, x.name); !slices.Equal(got, x.only) {
			t.Errorf("Only %q = %q", x.name, got)
		}
	}
}

// P3.1: Only of no names, and of more than one: as the tags stand, not as the names do.
func TestOnlyOfNames(t *testing.T) {
	l := tags("b", "1", "a", "2", "b", "3", "", "4", "a", "2")
	for _, x := range []struct {
		names []string
		want  []api.Tag
	}{
		{nil, nil},
		{[]string{}, nil},
		{[]string{"x", "y"}, nil},
		{[]string{"a", "b"}, tags("b", "1", "a", "2", "b", "3", "a", "2")},
		{[]string{"b", "a"}, tags("b", "1", "a", "2", "b", "3", "a", "2")},
		{[]string{"b", "b", "x"}, tags("b", "1", "b", "3")},
		{[]string{"", "x", "a"}, tags("a", "2", "", "4", "a", "2")},
		{[]string{"", "a", "b", "c"}, l},
	} {
		if got := Only(l, x.names...); !slices.Equal(got, x.want) {
			t.Errorf("Only %q = %q, want %q", x.names, got, x.want)
		}
		if got := Only(nil, x.names...); len(got) != 0 {
			t.Errorf("Only %q of none = %q", x.names, got)
		}
	}
	if got := Only(l); len(got) != 0 {
		t.Errorf("Only of no names = %q", got)
	}
}

// P3.1: Text of any tags, by hand.
func TestText(t *testing.T) {
	for _, x := range []struct {
		l    []api.Tag
		want string
	}{
		{nil, ""},
		{tags(), ""},
		{tags("a", "1"), "a=1"},
		{tags("b", "1", "a", "2", "b", "3"), "b=1,a=2,b=3"},
		{tags("", ""), "="},
		{tags("", "", "", ""), "=,="},
		{tags("A,", "=\xff"), "A,==\xff"},
		{tags("e", "1", "d", "2", "c", "3", "b", "4", "a", "5"), "e=1,d=2,c=3,b=4,a=5"},
	} {
		if got := Text(x.l); got != x.want {
			t.Errorf("Text(%q) = %q, want %q", x.l, got, x.want)
		}
	}
}

// P3.1: Parse, by hand: texts that are right.
func TestParse(t *testing.T) {
	for s, want := range map[string][]api.Tag{
		"":                          nil,
		"a=1":                       tags("a", "1"),
		"b=1,a=2":                   tags("a", "2", "b", "1"),
		"a=2,b=1":                   tags("a", "2", "b", "1"),
		"d=1,b=2,c=3,a=4":           tags("a", "4", "b", "2", "c", "3", "d", "1"),
		"host=10.0.0.1,dc=-":        tags("dc", "-", "host", "10.0.0.1"),
		"abcdefghijkl=0123456789.-": tags("abcdefghijkl", "0123456789.-"),
	} {
		checkParse(t, s, want, api.OK)
	}
}

// P3.1: Parse, by hand: texts that are wrong, and which error is asked where more than one applies.
func TestParseErrors(t *testing.T) {
	for s, e := range map[string]api.Errno{
		// parts without =, with nothing ahead of it or behind it, with two
		"a": api.ErrForm, "=": api.ErrForm, "a=": api.ErrForm, "=1": api.ErrForm, "==": api.ErrForm,
		"a=1=2": api.ErrForm, "a==1": api.ErrForm, "=a=1": api.ErrForm, "a=1=": api.ErrForm,
		"a=1,b": api.ErrForm, "a,b=1": api.ErrForm, "a=1,b=2=3": api.ErrForm,
		// commas at the head, at the end, side by side, alone
		",": api.ErrForm, ",,": api.ErrForm, ",a=1": api.ErrForm, "a=1,": api.ErrForm, "a=1,,b=2": api.ErrForm, "a=1,b=2,": api.ErrForm,
		// names and values that may not be
		"A=1": api.ErrForm, "a=A": api.ErrForm, "1=a": api.ErrForm, "a-b=1": api.ErrForm, " a=1": api.ErrForm, "a=1 ": api.ErrForm,
		"a=1, b=2": api.ErrForm, "a =1": api.ErrForm, "a=\x00": api.ErrForm, "\xff=1": api.ErrForm, "a=1;b=2": api.ErrForm, " ": api.ErrForm,
		"abcdefghijklm=1": api.ErrForm, "a=0123456789.-_": api.ErrForm,
		// two of one name, too many, more than one of these
		"a=1,a=1": api.ErrTwice, "a=1,a=2": api.ErrTwice, "b=1,a=1,b=2": api.ErrTwice, "a=1,b=1,c=1,a=1": api.ErrTwice,
		"a=1,b=1,c=1,d=1,e=1": api.ErrMany, "a=1,a=1,c=1,d=1,e=1": api.ErrMany, "a=1,b=1,c=1,d=1,e=1,f=1": api.ErrMany,
		"a=1,b=1,c=1,d=1,e": api.ErrForm, "a,b=1,c=1,d=1,e=1": api.ErrForm, "a=1,b=1,c=1,d=1,e=": api.ErrForm,
		"a=1,b=1,c=1,d=1,": api.ErrForm, "a=1,b=1,c=1,d=1,e=1,": api.ErrForm, ",a=1,b=1,c=1,d=1": api.ErrForm,
		"a=1,a=1,": api.ErrForm, "a=1,a=1,b": api.ErrForm, "a=1,a=A": api.ErrForm, "a=1,a=1,A=1": api.ErrForm,
	} {
		checkParse(t, s, nil, e)
	}
	checkParse(t, strings.Repeat("a=1,", 5000)+"a=1", nil, api.ErrMany)
	checkParse(t, strings.Repeat("a=1,", 5000)+"a", nil, api.ErrForm)
}

// P3.1, P3.2: all lists of at most 5 of some tags, right and wrong, and their texts.
func TestAllShortLists(t *testing.T) {
	some := tags("a", "1", "a", "2", "b", "1", "ab", "a", "c", "-", "d", "d", "A", "1", "b", "")
	lists.EachShort(some, 5, func(l []api.Tag) {
		want, e := wantCanon(l)
		checkTags(t, l, want, e)
		checkParse(t, Text(l), want, e)
	})
}

// P3.1, P3.2: all short texts of bytes that matter.
func TestAllShortTexts(t *testing.T) {
	lists.EachShort(strings.Split("ab1A=,", ""), 7, func(l []string) {
		s := strings.Join(l, "")
		want, e := wantParse(s)
		checkParse(t, s, want, e)
	})
}

// P3.2: tags in order come back from their text; in whatever order they come, they are the same in order, or the same is wrong.
func TestEveryOrder(t *testing.T) {
	right := [][]api.Tag{
		nil,
		tags("a", "1"),
		tags("a", "2", "b", "1"),
		tags("a", "b", "aa", "b", "b", "a"),
		tags("a", "_", "b", "9", "dc", "x.y", "zone", "eu-1"),
		tags("a", "1", "a0", "1", "a_", "1", "aa", "1"),
		tags("abcdefghijk", "-", "abcdefghijkl", ".", "abcdefghijkm", "0123456789.-", "z", "z"),
	}
	for _, want := range right {
		checkParse(t, Text(want), want, api.OK)
		lists.EachOrder(want, func(l []api.Tag) {
			checkTags(t, l, want, api.OK)
			checkParse(t, Text(l), want, api.OK)
		})
	}
	for _, x := range []struct {
		l []api.Tag
		e api.Errno
	}{
		{tags("a", "1", "b", "1", "c", "1", "b", "2"), api.ErrTwice},
		{tags("a", "1", "b", "1", "c", "1", "b", "2", "d", "1"), api.ErrMany},
		{tags("a", "1", "b", "1", "c", "1", "b", "2", "D", "1"), api.ErrForm},
	} {
		lists.EachOrder(x.l, func(l []api.Tag) {
			checkTags(t, l, nil, x.e)
			checkParse(t, Text(l), nil, x.e)
		})
	}
}

// P3.1: what was handed in is as it was, its spare room too, also when what was answered is written over.
func TestWhatIsHandedInStays(t *testing.T) {
	room := tags("c", "1", "a", "2", "b", "3", "spare", "4", "a", "5", "room", "6")
	names := []string{"b", "a", "c", "spare", "room"}
	was, namesWere := slices.Clone(room), slices.Clone(names)
	for n := range len(room) + 1 {
		l := room[:n]
		sorted, _ := Canon(l)
		some := Only(l, names[:3]...)
		Right(l)
		Find(l, "b")
		Text(l)
		for _, answer := range [][]api.Tag{sorted, some} {
			for i := range answer {
				answer[i] = api.Tag{Name: "x", Value: "x"}
			}
			_ = append(answer, api.Tag{Name: "y", Value: "y"})
		}
		if !slices.Equal(room, was) || !slices.Equal(names, namesWere) {
			t.Fatalf("behind calls with %d tags there are %q, %q", n, room, names)
		}
	}
}

// P3.1, P3.2: the same for whatever a fuzzer finds.
func FuzzTexts(f *testing.F) {
	for _, s := range []string{"", "a=1", "b=1,a=2", "a=1,b=1,c=1,d=1,e=1", "a=1,a=2", ",", "a=1=2", "\xff="} {
		f.Add(s)
	}
	f.Fuzz(func(t *testing.T, s string) {
		want, e := wantParse(s)
		checkParse(t, s, want, e)
		l := []api.Tag{}
		for part := range strings.SplitSeq(s, ",") {
			name, value, _ := strings.Cut(part, "=")
			l = append(l, api.Tag{Name: name, Value: value})
		}
		want, e = wantCanon(l)
		checkTags(t, l, want, e)
	})
}
