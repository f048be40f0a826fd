package word

import (
	"bytes"
	"regexp"
	"slices"
	"strings"
	"testing"
)

// kinds is what a text must be told as, told by other means: patterns of bytes.
func kinds(s string) (name, value bool) {
	name = regexp.MustCompile(`\A[a-z][a-z0-9_]{0,11}\z`).MatchString(s)
	value = regexp.MustCompile(`\A[a-z0-9_.-]{1,12}\z`).MatchString(s)
	return name, value
}

// checkKinds holds Name and Value of s against what is wanted.
func checkKinds(t *testing.T, s string, name, value bool) {
	t.Helper()
	if got := Name(s); got != name {
		t.Errorf("Name(%q) = %v", s, got)
	}
	if got := Value(s); got != value {
		t.Errorf("Value(%q) = %v", s, got)
	}
}

// P2.1: names and values, by hand.
func TestKinds(t *testing.T) {
	for _, x := range []struct {
		s           string
		name, value bool
	}{
		{"cpu", true, true}, {"a", true, true}, {"z", true, true}, {"host_1", true, true}, {"a_", true, true}, {"a9", true, true},
		{"a__b", true, true}, {"a0123456789_", true, true},
		{"", false, false},
		{"abcdefghijkl", true, true}, {"abcdefghijklm", false, false},
		{"0123456789.-", false, true}, {"0123456789.-_", false, false},
		{"9", false, true}, {"9a", false, true}, {"0", false, true},
		{"_", false, true}, {"_a", false, true}, {"-", false, true}, {"-a", false, true}, {".", false, true}, {".a", false, true},
		{"a-b", false, true}, {"a.b", false, true}, {"a-", false, true}, {"a.", false, true}, {"10.0.0.1", false, true}, {"---", false, true},
		{"A", false, false}, {"aB", false, false}, {"Ab", false, false},
		{" ", false, false}, {" a", false, false}, {"a ", false, false}, {"a b", false, false}, {"a\t", false, false}, {"a\n", false, false},
		{"a\x00", false, false}, {"\x00", false, false}, {"a,b", false, false}, {"a=b", false, false}, {"a/b", false, false}, {"a:b", false, false},
		{"ä", false, false}, {"aä", false, false}, {"\xff", false, false}, {"a\x80", false, false}, {"١", false, false},
		{strings.Repeat("a", 5000), false, false},
	} {
		checkKinds(t, x.s, x.name, x.value)
	}
}

// P2.1: each byte alone, at the head, in the midst and at the end.
func TestEachByte(t *testing.T) {
	for c := range 256 {
		b := string([]byte{byte(c)})
		for _, s := range []string{b, b + "a", b + "9", "a" + b, "a" + b + "c", "abcdefghijk" + b, b + "bcdefghijkl", "abcdefghijkl" + b} {
			name, value := kinds(s)
			checkKinds(t, s, name, value)
		}
	}
}

// P2.1: each length about the limit, of each byte that may stand there.
func TestEachLength(t *testing.T) {
	for _, head := range []string{"a", "z", "0", "9", "_", "-", "."} {
		for n := range 30 {
			s := strings.Repeat(head, n)
			name, value := kinds(s)
			checkKinds(t, s, name, value)
			checkKinds(t, "b"+s, n < 12 && !strings.ContainsAny(s, "-."), n < 12)
		}
	}
}

// P2.1: Split, by hand.
func TestSplit(t *testing.T) {
	for _, x := range []struct {
		s    string
		at   byte
		want []string
	}{
		{"", ',', []string{""}},
		{"", 0, []string{""}},
		{"a", ',', []string{"a"}},
		{",", ',', []string{"", ""}},
		{",,", ',', []string{"", "", ""}},
		{"a,b", ',', []string{"a", "b"}},
		{"a,,b", ',', []string{"a", "", "b"}},
		{",a", ',', []string{"", "a"}},
		{"a,", ',', []string{"a", ""}},
		{",a,", ',', []string{"", "a", ""}},
		{"ab,cd,ef", ',', []string{"ab", "cd", "ef"}},
		{"a b,c", ' ', []string{"a", "b,c"}},
		{"a b,c", 'a', []string{"", " b,c"}},
		{"a\x00b", 0, []string{"a", "b"}},
		{"\xff\xfe\xff", 0xfe, []string{"\xff", "\xff"}},
		{"\xff\xfe\xff", 0xff, []string{"", "\xfe", ""}},
		{"\xc3\xbe", 0xfe, []string{"\xc3\xbe"}}, // the rune 254 isn't the byte 254
		{"ä", 0xc3, []string{"", "\xa4"}},
		{"ä", 0xa4, []string{"\xc3", ""}},
	} {
		if got := Split(x.s, x.at); !slices.Equal(got, x.want) {
			t.Errorf("Split(%q, %d) = %q, want %q", x.s, x.at, got, x.want)
		}
	}
}

// P2.1: Join, by hand.
func TestJoin(t *testing.T) {
	for _, x := range []struct {
		at   string
		l    []string
		want string
	}{
		{"", nil, ""}, {",", nil, ""}, {",", []string{}, ""}, {"ab", nil, ""},
		{",", []string{""}, ""}, {",", []string{"a"}, "a"}, {"ab", []string{"x"}, "x"},
		{",", []string{"", ""}, ","}, {",", []string{"", "a"}, ",a"}, {",", []string{"a", ""}, "a,"},
		{",", []string{"a", "b", "c"}, "a,b,c"}, {"", []string{"a", "b", "c"}, "abc"}, {" | ", []string{"a", "b"}, "a | b"},
		{",", []string{"a,b", "c"}, "a,b,c"}, {"\xff", []string{"\xfe", "\x00"}, "\xfe\xff\x00"},
	} {
		if got := Join(x.at, x.l...); got != x.want {
			t.Errorf("Join(%q, %q) = %q, want %q", x.at, x.l, got, x.want)
		}
	}
	if got := Join(","); got != "" {
		t.Errorf("Join of none = %q", got)
	}
	if got := Join(", ", "a", "b"); got != "a, b" {
		t.Errorf("Join of two = %q", got)
	}
}

// P2.1: Fields, by hand.
func TestFields(t *testing.T) {
	for _, x := range []struct {
		s    string
		want []string
	}{
		{"", nil}, {" ", nil}, {"     ", nil},
		{"a", []string{"a"}}, {" a", []string{"a"}}, {"a ", []string{"a"}}, {"  a  ", []string{"a"}},
		{"put cpu 5 7", []string{"put", "cpu", "5", "7"}}, {" a  b   c ", []string{"a", "b", "c"}}, {"a a", []string{"a", "a"}},
		{"\t", []string{"\t"}}, {"a\tb", []string{"a\tb"}}, {"a\n b\r\v\f", []string{"a\n", "b\r\v\f"}},
		{"\u00a0 \u2003", []string{"\u00a0", "\u2003"}}, {"\xff \x00", []string{"\xff", "\x00"}}, {"a,,b", []string{"a,,b"}},
	} {
		if got := Fields(x.s); !slices.Equal(got, x.want) {
			t.Errorf("Fields(%q) = %q, want %q", x.s, got, x.want)
		}
	}
}

// parts is what Split must answer, told by other means: byte by byte.
func parts(s string, at byte) []string {
	l := []string{""}
	for i := range len(s) {
		if s[i] == at {
			l = append(l, "")
		} else {
			l[len(l)-1] += s[i : i+1]
		}
	}
	return l
}

// checkText holds all calls on any text against what is said of them, and what is split against its text.
func checkText(t *testing.T, s string, at byte) {
	t.Helper()
	name, value := kinds(s)
	checkKinds(t, s, name, value)
	l := Split(s, at)
	if !slices.Equal(l, parts(s, at)) || len(l) != strings.Count(s, string([]byte{at}))+1 {
		t.Errorf("Split(%q, %d) = %q", s, at, l)
	}
	if got := Join(string([]byte{at}), l...); got != s {
		t.Errorf("%q, split at %d and joined, is %q", s, at, got)
	}
	want := []string{}
	for _, p := range parts(s, ' ') {
		if p != "" {
			want = append(want, p)
		}
	}
	if got := Fields(s); !slices.Equal(got, want) {
		t.Errorf("Fields(%q) = %q", s, got)
	}
}

// P2.1, P2.2: the same for all short texts of bytes that matter.
func TestAllShortTexts(t *testing.T) {
	const some = "a_9-, \t\xfe"
	texts := []string{""}
	for range 5 {
		longer := []string{}
		for _, s := range texts {
			for _, at := range []byte{',', ' ', 'a', 0xfe, 0} {
				checkText(t, s, at)
			}
			for i := range len(some) {
				longer = append(longer, s+some[i:i+1])
			}
		}
		texts = longer
	}
}

// P2.2: every byte parts, and what it parted is joined as it was.
func TestEveryByteParts(t *testing.T) {
	all := make([]byte, 0, 1024)
	for c := range 512 {
		all = append(all, byte(c), byte(c*c))
	}
	for at := range 256 {
		checkText(t, string(all), byte(at))
	}
}

// P2.2: names and values, joined by each byte that can't stand in them, are split as they were.
func TestWordsAreSplitAsTheyWere(t *testing.T) {
	names := []string{"a", "z9", "host_1", "abcdefghijkl", "a", "a___________"}
	values := []string{"0", "-", ".", "_", "10.0.0.1", "a-b", "abcdefghijkl", "0123456789.-", "0"}
	for at := range 256 {
		b := string([]byte{byte(at)})
		if !Name("a" + b) {
			checkThereAndBack(t, names, byte(at))
		}
		if !Value(b) {
			checkThereAndBack(t, values, byte(at))
			checkThereAndBack(t, slices.Concat(names, values), byte(at))
		}
	}
}

// checkThereAndBack joins by at ever more of l, and splits that.
func checkThereAndBack(t *testing.T, l []string, at byte) {
	t.Helper()
	for n := 1; n <= len(l); n++ {
		s := Join(string([]byte{at}), l[:n]...)
		if got := Split(s, at); !slices.Equal(got, l[:n]) {
			t.Errorf("%q, joined by %d, is split as %q", l[:n], at, got)
		}
		if got := Fields(s); at == ' ' && !slices.Equal(got, l[:n]) {
			t.Errorf("%q, joined by blanks, has the fields %q", l[:n], got)
		}
	}
}

// P2.1: a list that is joined is as it was, its spare room too, and so is a text when what it was split into is written over.
func TestWhatIsHandedInStays(t *testing.T) {
	room := []string{"a", "", "b,c", "spare", "room"}
	was := slices.Clone(room)
	Join(",", room[:3]...)
	if !slices.Equal(room, was) {
		t.Errorf("joined, the list is %q", room)
	}
	text := []byte(" a, b ,c  ")
	s := string(text)
	first := Split(s, ',')
	for _, l := range [][]string{Split(s, ','), Fields(s)} {
		for i := range l {
			l[i] = "x"
		}
		_ = append(l, "y")
	}
	if s != string(text) || !bytes.Equal(text, []byte(" a, b ,c  ")) || !slices.Equal(first, []string{" a", " b ", "c  "}) {
		t.Errorf("the text is %q, its parts are %q", s, first)
	}
}

// P2.1, P2.2: the same for whatever a fuzzer finds.
func FuzzTexts(f *testing.F) {
	for _, s := range []string{"", "a", "a,,b", " a  b\t", "abcdefghijklm", "\xff\xfe"} {
		f.Add(s, byte(','))
		f.Add(s, byte(0xfe))
	}
	f.Fuzz(checkText)
}
