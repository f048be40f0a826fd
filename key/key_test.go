package key

import (
	"regexp"
	"slices"
	"sort"
	"strings"
	"testing"

	"ebbtide/api"
	"ebbtide/lists"
)

const (
	namePattern = `[a-z][a-z0-9_]{0,11}`
	tagPattern  = namePattern + `=[a-z0-9_.-]{1,12}`
)

// What a name, a tag's text and a series' text must look like, told by other means: patterns of bytes.
var (
	goodName = regexp.MustCompile(`\A` + namePattern + `\z`)
	goodTag  = regexp.MustCompile(`\A` + tagPattern + `\z`)
	goodText = regexp.MustCompile(`\A(` + namePattern + `)(\{(` + tagPattern + `(,` + tagPattern + `)*)\})?\z`)
)

// series makes one of a name and of its tags' names and values, whatever they are.
func series(name string, words ...string) api.Key {
	return api.Key{Name: name, Tags: lists.Tags(words...)}
}

// equal: part by part; no tags are no tags, nil or empty.
func equal(a, b api.Key) bool {
	if a.Name != b.Name || len(a.Tags) != len(b.Tags) {
		return false
	}
	for i := range a.Tags {
		if a.Tags[i].Name != b.Tags[i].Name || a.Tags[i].Value != b.Tags[i].Value {
			return false
		}
	}
	return true
}

// wantMake is what Make must answer of k's name and tags, told by other means.
func wantMake(k api.Key) (api.Key, api.Errno) {
	if !goodName.MatchString(k.Name) {
		return api.Key{}, api.ErrForm
	}
	names := map[string]bool{}
	for _, one := range k.Tags {
		if !goodTag.MatchString(one.Name + "=" + one.Value) {
			return api.Key{}, api.ErrForm
		}
		names[one.Name] = true
	}
	if len(k.Tags) > 4 {
		return api.Key{}, api.ErrMany
	}
	if len(names) < len(k.Tags) {
		return api.Key{}, api.ErrTwice
	}
	l := slices.Clone(k.Tags)
	sort.Slice(l, func(i, j int) bool { return l[i].Name < l[j].Name })
	return api.Key{Name: k.Name, Tags: l}, api.OK
}

// wantText is what Text must answer, byte by byte: a { ahead of the first tag, a comma ahead of each other one.
func wantText(k api.Key) string {
	b := []byte(k.Name)
	for i, one := range k.Tags {
		b = append(b, "{,"[min(i, 1)])
		b = append(b, one.Name...)
		b = append(b, '=')
		b = append(b, one.Value...)
	}
	if len(k.Tags) > 0 {
		b = append(b, '}')
	}
	return string(b)
}

// wantParse is what Parse must answer, told by other means: of the whole text, whatever is wrong in its form comes first.
func wantParse(s string) (api.Key, api.Errno) {
	parts := goodText.FindStringSubmatch(s)
	if parts == nil {
		return api.Key{}, api.ErrForm
	}
	k := api.Key{Name: parts[1]}
	if parts[3] != "" {
		k.Tags = lists.Tags(strings.FieldsFunc(parts[3], func(r rune) bool { return r == ',' || r == '=' })...)
	}
	return wantMake(k)
}

// checkKey holds Right, Make and Text of k against what is wanted.
func checkKey(t *testing.T, k, want api.Key, e api.Errno) {
	t.Helper()
	was := api.Key{Name: k.Name, Tags: slices.Clone(k.Tags)}
	if got, f := Make(k.Name, k.Tags...); f != e || !equal(got, want) {
		t.Errorf("Make(%q) = %q, %d, want %q, %d", k, got, f, want, e)
	}
	if got := Right(k); got != (e == api.OK && equal(k, want)) {
		t.Errorf("Right(%q) = %v", k, got)
	}
	if got := Text(k); got != wantText(k) {
		t.Errorf("Text(%q) = %q, want %q", k, got, wantText(k))
	}
	if !equal(k, was) {
		t.Errorf("%q became %q", was, k)
	}
}

// checkParse holds Parse of s against what is wanted, and what it answers against its own text.
func checkParse(t *testing.T, s string, want api.Key, e api.Errno) {
	t.Helper()
	k, f := Parse(s)
	if f != e || !equal(k, want) {
		t.Errorf("Parse(%q) = %q, %d, want %q, %d", s, k, f, want, e)
	}
	if f != api.OK {
		return
	}
	if again, g := Parse(Text(k)); !Right(k) || g != api.OK || !equal(again, k) {
		t.Errorf("Parse(%q) = %q, %d, then %q, %d", s, k, f, again, g)
	}
}

// P4.1: Right, Make and Text, by hand: series that are right, their tags in order and not.
func TestMake(t *testing.T) {
	for _, x := range []struct {
		k, want api.Key
		text    string
	}{
		{series("cpu"), series("cpu"), "cpu"},
		{api.Key{Name: "cpu", Tags: []api.Tag{}}, series("cpu"), "cpu"},
		{series("a", "b", "1"), series("a", "b", "1"), "a{b=1}"},
		{series("a", "a", "a"), series("a", "a", "a"), "a{a=a}"},
		{series("cpu", "b", "1", "a", "2"), series("cpu", "a", "2", "b", "1"), "cpu{a=2,b=1}"},
		{series("cpu", "a", "2", "b", "1"), series("cpu", "a", "2", "b", "1"), "cpu{a=2,b=1}"},
		{series("c_0", "a", "1", "c", "3", "b", "2"), series("c_0", "a", "1", "b", "2", "c", "3"), "c_0{a=1,b=2,c=3}"},
		{series("x", "d", "1", "c", "2", "b", "3", "a", "4"), series("x", "a", "4", "b", "3", "c", "2", "d", "1"), "x{a=4,b=3,c=2,d=1}"},
		{series("x", "a", "4", "b", "3", "c", "2", "d", "1"), series("x", "a", "4", "b", "3", "c", "2", "d", "1"), "x{a=4,b=3,c=2,d=1}"},
		{series("abcdefghijkl", "abcdefghijkl", "0123456789.-"), series("abcdefghijkl", "abcdefghijkl", "0123456789.-"), "abcdefghijkl{abcdefghijkl=0123456789.-}"},
	} {
		checkKey(t, x.k, x.want, api.OK)
		if got := Text(x.want); got != x.text {
			t.Errorf("Text(%q) = %q", x.want, got)
		}
	}
	if k, e := Make("cpu"); e != api.OK || !equal(k, series("cpu")) {
		t.Errorf("Make of no tags = %q, %d", k, e)
	}
}

// P4.1: Right and Make, by hand: what may not be, and which error is asked where more than one applies.
func TestMakeErrors(t *testing.T) {
	for _, x := range []struct {
		k api.Key
		e api.Errno
	}{
		// the name
		{series(""), api.ErrForm},
		{series("CPU"), api.ErrForm},
		{series("9"), api.ErrForm},
		{series("_a"), api.ErrForm},
		{series("a.b"), api.ErrForm},
		{series("a-b"), api.ErrForm},
		{series("a b"), api.ErrForm},
		{series("cpu{"), api.ErrForm},
		{series("cpu}"), api.ErrForm},
		{series("cpu{a=1}"), api.ErrForm},
		{series("abcdefghijklm"), api.ErrForm},
		{series("\xff"), api.ErrForm},
		{series("", "a", "1"), api.ErrForm},
		// the tags
		{series("cpu", "", "1"), api.ErrForm},
		{series("cpu", "a", ""), api.ErrForm},
		{series("cpu", "A", "1"), api.ErrForm},
		{series("cpu", "a", "A"), api.ErrForm},
		{series("cpu", "a", "1}"), api.ErrForm},
		{series("cpu", "a", "1,b=1"), api.ErrForm},
		{series("cpu", "b", "1", "a", "{"), api.ErrForm},
		{series("cpu", "abcdefghijklm", "1"), api.ErrForm},
		{series("cpu", "a", "0123456789.-_"), api.ErrForm},
		{series("cpu", "a", "1", "b", "1", "c", "1", "d", "1", "e", "1"), api.ErrMany},
		{series("cpu", "e", "1", "d", "1", "c", "1", "b", "1", "a", "1"), api.ErrMany},
		{series("cpu", "a", "1", "a", "1"), api.ErrTwice},
		{series("cpu", "a", "1", "a", "2"), api.ErrTwice},
		{series("cpu", "b", "1", "a", "1", "b", "2"), api.ErrTwice},
		{series("cpu", "a", "1", "b", "1", "c", "1", "a", "1"), api.ErrTwice},
		// the name ahead of the tags' errors
		{series("9", "a", "1", "a", "1"), api.ErrForm},
		{series("9", "a", "1", "b", "1", "c", "1", "d", "1", "e", "1"), api.ErrForm},
		{series("9", "b", "1", "a", "1"), api.ErrForm},
		{series("9", "A", "1"), api.ErrForm},
		// form ahead of many, many ahead of twice, form ahead of twice
		{series("cpu", "a", "1", "b", "1", "c", "1", "d", "1", "E", "1"), api.ErrForm},
		{series("cpu", "a", "1", "a", "1", "c", "1", "d", "1", "e", "1"), api.ErrMany},
		{series("cpu", "a", "1", "a", "1", "b", ""), api.ErrForm},
	} {
		checkKey(t, x.k, api.Key{}, x.e)
	}
}

// P4.1: Text of any, by hand: of such as may not be, too.
func TestText(t *testing.T) {
	for _, x := range []struct {
		k    api.Key
		want string
	}{
		{api.Key{}, ""},
		{series("?", "b", "2", "a", "1"), "?{b=2,a=1}"},
		{series("CPU"), "CPU"},
		{series("", "a", "1"), "{a=1}"},
		{series("", "", ""), "{=}"},
		{series("cpu", "", "", "", ""), "cpu{=,=}"},
		{series("cpu", "a", "1", "a", "1"), "cpu{a=1,a=1}"},
		{series("{}", "\xff", "}"), "{}{\xff=}}"},
		{series("cpu", "e", "1", "d", "2", "c", "3", "b", "4", "a", "5"), "cpu{e=1,d=2,c=3,b=4,a=5}"},
	} {
		if got := Text(x.k); got != x.want {
			t.Errorf("Text(%q) = %q, want %q", x.k, got, x.want)
		}
	}
}

// P4.1: Parse, by hand: texts that are right.
func TestParse(t *testing.T) {
	for s, want := range map[string]api.Key{
		"cpu":                  series("cpu"),
		"a":                    series("a"),
		"abcdefghijkl":         series("abcdefghijkl"),
		"a{b=1}":               series("a", "b", "1"),
		"cpu{b=1,a=2}":         series("cpu", "a", "2", "b", "1"),
		"cpu{a=2,b=1}":         series("cpu", "a", "2", "b", "1"),
		"x{d=1,b=2,c=3,a=4}":   series("x", "a", "4", "b", "2", "c", "3", "d", "1"),
		"x{host=10.0.0.1,d=-}": series("x", "d", "-", "host", "10.0.0.1"),
		"abcdefghijkl{abcdefghijkl=0123456789.-}": series("abcdefghijkl", "abcdefghijkl", "0123456789.-"),
	} {
		checkParse(t, s, want, api.OK)
	}
}

// P4.1: Parse, by hand: texts that are wrong, and which error is asked where more than one applies.
func TestParseErrors(t *testing.T) {
	for s, e := range map[string]api.Errno{
		// nothing, or what isn't a name
		"": api.ErrForm, " ": api.ErrForm, "CPU": api.ErrForm, "9": api.ErrForm, "cpu ": api.ErrForm, " cpu": api.ErrForm, "a.b": api.ErrForm,
		"abcdefghijklm": api.ErrForm, "abcdefghijklm{a=1}": api.ErrForm, "\xff": api.ErrForm, "a=1": api.ErrForm, "a,b": api.ErrForm,
		// a { without a } at the end, a } without a {
		"{": api.ErrForm, "cpu{": api.ErrForm, "cpu{a=1": api.ErrForm, "cpu{a=1,": api.ErrForm, "}": api.ErrForm, "cpu}": api.ErrForm, "cpua=1}": api.ErrForm, "}{": api.ErrForm, "cpu}{": api.ErrForm,
		// nothing between, nothing ahead
		"cpu{}": api.ErrForm, "{}": api.ErrForm, "{a=1}": api.ErrForm, "{a=1,a=1}": api.ErrForm, "cpu{ }": api.ErrForm,
		// a second { or }, text behind the }
		"cpu{{a=1}": api.ErrForm, "cpu{a=1}}": api.ErrForm, "cpu{{a=1}}": api.ErrForm, "cpu{{}": api.ErrForm, "cpu{}}": api.ErrForm, "cpu{{}}": api.ErrForm,
		"cpu{a=1{}": api.ErrForm, "cpu{a=1}{b=1}": api.ErrForm, "cpu{a=1},{b=1}": api.ErrForm, "cpu{a=1}{}": api.ErrForm, "cpu}{a=1}": api.ErrForm, "cpu{}{a=1}": api.ErrForm, "cpu{}a=1}": api.ErrForm,
		"cpu{a=1} ": api.ErrForm, "cpu{a=1}a": api.ErrForm, "cpu{a=1}\n": api.ErrForm, "cpu {a=1}": api.ErrForm,
		// what stands between isn't tags
		"cpu{a}": api.ErrForm, "cpu{=}": api.ErrForm, "cpu{a=}": api.ErrForm, "cpu{=1}": api.ErrForm, "cpu{,}": api.ErrForm, "cpu{a=1,}": api.ErrForm, "cpu{,a=1}": api.ErrForm,
		"cpu{a=1=2}": api.ErrForm, "cpu{A=1}": api.ErrForm, "cpu{a=1, b=1}": api.ErrForm, "cpu{a=1;b=1}": api.ErrForm, "cpu{ a=1}": api.ErrForm,
		// two of one name, too many, more than one of these
		"cpu{a=1,a=1}": api.ErrTwice, "cpu{a=1,a=2}": api.ErrTwice, "cpu{b=1,a=1,b=1}": api.ErrTwice, "cpu{a=1,b=1,c=1,d=1,e=1}": api.ErrMany,
		"cpu{a=1,a=1,c=1,d=1,e=1}": api.ErrMany, "cpu{a=1,b=1,c=1,d=1,e}": api.ErrForm, "cpu{a=1,a=1,}": api.ErrForm, "cpu{a=1,a=1,b}": api.ErrForm,
		// form, brackets and name ahead of the tags' errors
		"9{a=1,a=2}": api.ErrForm, "9{a=1,b=1,c=1,d=1,e=1}": api.ErrForm, "CPU{a=1,a=1}": api.ErrForm, "cpu{a=1,a=1": api.ErrForm, "cpu{a=1,a=1}}": api.ErrForm,
		"cpu{a=1,b=1,c=1,d=1,e=1": api.ErrForm, "cpu{a=1,b=1,c=1,d=1,e=1} ": api.ErrForm, "cpu{{a=1,b=1,c=1,d=1,e=1}": api.ErrForm,
	} {
		checkParse(t, s, api.Key{}, e)
	}
	many := strings.Repeat("a=1,", 5000)
	checkParse(t, "cpu{"+many+"a=1}", api.Key{}, api.ErrMany)
	checkParse(t, "cpu{"+many+"}", api.Key{}, api.ErrForm)
	checkParse(t, "9{"+many+"a=1}", api.Key{}, api.ErrForm)
	checkParse(t, strings.Repeat("{", 5000)+strings.Repeat("}", 5000), api.Key{}, api.ErrForm)
}

// P4.1: Same, by hand, of each two of these: they differ in the name alone, in one tag alone, in how many there are, in their order.
func TestSame(t *testing.T) {
	all := []api.Key{
		{},
		series("cpu"),
		series("cpv"),
		series("cp"),
		series("CPU"),
		series("cpu{a=1}"),
		series("", "a", "1"),
		series("cpu", "a", "1"),
		series("cpv", "a", "1"),
		series("cpu", "b", "1"),
		series("cpu", "a", "2"),
		series("cpu", "a", ""),
		series("cpu", "", ""),
		series("cpu", "a", "1", "b", "2"),
		series("cpu", "b", "2", "a", "1"),
		series("cpu", "a", "1", "b", "3"),
		series("cpu", "a", "1", "c", "2"),
		series("cpu", "a", "2", "b", "2"),
		series("cpu", "a", "1", "a", "1"),
		series("cpu", "a", "1,b=2"),
		series("cpu", "a", "1", "b", "2", "c", "3", "d", "4"),
		series("cpu", "a", "1", "b", "2", "c", "3", "d", "5"),
		series("cpu", "a", "1", "b", "2", "c", "3", "d", "4", "e", "5"),
	}
	for i, a := range all {
		for j, b := range all {
			if got := Same(a, b); got != (i == j) {
				t.Errorf("Same(%q, %q) = %v", a, b, got)
			}
		}
		if again := (api.Key{Name: a.Name, Tags: slices.Clone(a.Tags)}); !Same(a, again) {
			t.Errorf("%q isn't the same as itself", a)
		}
	}
	if !Same(api.Key{Name: "cpu", Tags: []api.Tag{}}, api.Key{Name: "cpu"}) {
		t.Error("no tags aren't no tags")
	}
}

// someTags are such as may be and such as may not.
var someTags = lists.Tags("a", "1", "a", "2", "b", "1", "ab", "a", "c", "-", "d", "d", "A", "1", "b", "")

// P4.1, P4.2: all lists of at most 5 of some tags, right and wrong, with names that are right and wrong, and their texts.
func TestAllShortLists(t *testing.T) {
	for _, name := range []string{"a", "9"} {
		lists.EachShort(someTags, 5, func(l []api.Tag) {
			k := api.Key{Name: name, Tags: l}
			want, e := wantMake(k)
			checkKey(t, k, want, e)
			checkParse(t, Text(k), want, e)
		})
	}
}

// P4.1, P4.2: all short texts of pieces that matter.
func TestAllShortTexts(t *testing.T) {
	lists.EachShort([]string{"a", "{", "}", "b=1", "a=-", ",", "A"}, 6, func(l []string) {
		s := strings.Join(l, "")
		want, e := wantParse(s)
		checkParse(t, s, want, e)
	})
}

// P4.2: two that may be have one text just if they are the same.
func TestOneTextEach(t *testing.T) {
	var all []api.Key
	for _, name := range []string{"a", "b", "ab", "a1"} {
		lists.EachShort(someTags, 4, func(l []api.Tag) {
			if k := (api.Key{Name: name, Tags: l}); Right(k) {
				all = append(all, k)
			}
		})
	}
	// a alone or not, with one value or the other one; b, ab, c and d or not; not all five
	if want := 4 * (3*16 - 2); len(all) != want {
		t.Fatalf("%d may be, want %d", len(all), want)
	}
	for i, a := range all {
		for j, b := range all {
			if got := Same(a, b); got != (i == j) || got != (Text(a) == Text(b)) {
				t.Errorf("Same(%q, %q) = %v, their texts are %q, %q", a, b, got, Text(a), Text(b))
			}
		}
	}
}

// P4.2: a series comes back from its text; in whatever order its tags come, it is the same, or the same is wrong.
func TestEveryOrder(t *testing.T) {
	for _, want := range []api.Key{
		series("cpu"),
		series("cpu", "a", "1"),
		series("cpu", "a", "2", "b", "1"),
		series("cpu", "a", "b", "aa", "b", "b", "a"),
		series("x_9", "a", "_", "b", "9", "dc", "x.y", "zone", "eu-1"),
		series("a", "a", "1", "a0", "1", "a_", "1", "aa", "1"),
		series("abcdefghijkl", "abcdefghijk", "-", "abcdefghijkl", ".", "abcdefghijkm", "0123456789.-", "z", "z"),
	} {
		lists.EachOrder(want.Tags, func(l []api.Tag) {
			k := api.Key{Name: want.Name, Tags: l}
			checkKey(t, k, want, api.OK)
			checkParse(t, Text(k), want, api.OK)
			if made, _ := Make(k.Name, l...); !Same(made, want) || Text(made) != Text(want) {
				t.Errorf("made of %q is %q, want %q", k, made, want)
			}
		})
	}
	for _, x := range []struct {
		k api.Key
		e api.Errno
	}{
		{series("cpu", "a", "1", "b", "1", "c", "1", "b", "2"), api.ErrTwice},
		{series("cpu", "a", "1", "b", "1", "c", "1", "b", "2", "d", "1"), api.ErrMany},
		{series("cpu", "a", "1", "b", "1", "c", "1", "b", "2", "D", "1"), api.ErrForm},
		{series("9", "a", "1", "b", "1", "c", "1", "b", "2"), api.ErrForm},
	} {
		lists.EachOrder(x.k.Tags, func(l []api.Tag) {
			k := api.Key{Name: x.k.Name, Tags: l}
			checkKey(t, k, api.Key{}, x.e)
			checkParse(t, Text(k), api.Key{}, x.e)
		})
	}
}

// P4.1: what was handed in is as it was, its spare room too.
func TestWhatIsHandedInStays(t *testing.T) {
	room := lists.Tags("c", "1", "a", "2", "b", "3", "spare", "4", "a", "5", "room", "6")
	was := slices.Clone(room)
	for n := range len(room) + 1 {
		k := api.Key{Name: "cpu", Tags: room[:n]}
		Make(k.Name, k.Tags...)
		Right(k)
		Text(k)
		Same(k, api.Key{Name: "cpu", Tags: room})
		Same(api.Key{Name: "cpu", Tags: room}, k)
		if !slices.Equal(room, was) {
			t.Fatalf("behind calls with %d tags there are %q", n, room)
		}
	}
}

// P4.1, P4.2: the same for whatever a fuzzer finds.
func FuzzTexts(f *testing.F) {
	for _, s := range []string{"", "cpu", "a{b=1}", "cpu{b=1,a=2}", "a{a=1,b=1,c=1,d=1,e=1}", "a{a=1,a=2}", "a{}", "a}{", "{\xff="} {
		f.Add(s)
	}
	f.Fuzz(func(t *testing.T, s string) {
		want, e := wantParse(s)
		checkParse(t, s, want, e)
		words := strings.FieldsFunc(s, func(r rune) bool { return strings.ContainsRune("{,=}", r) })
		k := api.Key{}
		if len(words) > 0 {
			k = series(words[0], words[1:]...)
		}
		want, e = wantMake(k)
		checkKey(t, k, want, e)
	})
}
