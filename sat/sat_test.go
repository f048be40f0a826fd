package sat

import (
	"math"
	"math/big"
	"regexp"
	"strings"
	"testing"

	"ebbtide/api"
)

const (
	top = math.MaxInt64
	low = math.MinInt64
)

// over is a sum that ran over.
func over(n int64) api.Sum { return api.Sum{N: n, Over: true} }

// edges are numbers about 0, about half of 64 bits and about their ends.
func edges() []int64 {
	l := []int64{}
	for _, n := range []int64{0, top/2 + 1, low / 2, top - 2, low + 2, 1000000000000, -1000000000000} {
		for d := int64(-2); d <= 2; d++ {
			l = append(l, n+d)
		}
	}
	return l
}

// sums are the edges, each once as it is and once as what ran over.
func sums() []api.Sum {
	l := []api.Sum{}
	for _, n := range edges() {
		l = append(l, Of(n), over(n))
	}
	return l
}

// bigSum is the sum of two numbers, held against 64 bits by numbers that have no end.
func bigSum(a, b int64) api.Sum {
	n := new(big.Int).Add(big.NewInt(a), big.NewInt(b))
	switch {
	case n.IsInt64():
		return api.Sum{N: n.Int64()}
	case n.Sign() > 0:
		return over(top)
	}
	return over(low)
}

// P1.1: Of.
func TestOf(t *testing.T) {
	for _, n := range edges() {
		if got := Of(n); got != (api.Sum{N: n}) {
			t.Errorf("Of(%d) = %v", n, got)
		}
	}
}

// P1.1, P1.2: Add, by hand.
func TestAdd(t *testing.T) {
	for _, x := range []struct{ a, b, want api.Sum }{
		{Of(0), Of(0), Of(0)},
		{Of(3), Of(4), Of(7)},
		{Of(3), Of(-5), Of(-2)},
		{Of(-3), Of(-4), Of(-7)},
		{Of(top), Of(0), Of(top)},
		{Of(0), Of(top), Of(top)},
		{Of(top - 1), Of(1), Of(top)},
		{Of(top), Of(1), over(top)},
		{Of(1), Of(top), over(top)},
		{Of(top), Of(top), over(top)},
		{Of(top/2 + 1), Of(top/2 + 1), over(top)},
		{Of(low), Of(0), Of(low)},
		{Of(0), Of(low), Of(low)},
		{Of(low + 1), Of(-1), Of(low)},
		{Of(low / 2), Of(low / 2), Of(low)},
		{Of(low), Of(-1), over(low)},
		{Of(-1), Of(low), over(low)},
		{Of(low), Of(low), over(low)},
		{Of(low), Of(top), Of(-1)},
		{Of(top), Of(low), Of(-1)},
		{over(5), Of(1), over(5)},
		{Of(1), over(5), over(5)},
		{over(5), over(6), over(5)},
		{over(6), over(5), over(6)},
		{over(0), Of(top), over(0)},
		{Of(top), over(0), over(0)},
		{over(top), Of(-1), over(top)},
		{over(low), over(top), over(low)},
	} {
		if got := Add(x.a, x.b); got != x.want {
			t.Errorf("Add(%v, %v) = %v, want %v", x.a, x.b, got, x.want)
		}
	}
}

// P1.2: what ran over stays as it is, whatever is added; what didn't is just the sum.
func TestItStays(t *testing.T) {
	for _, a := range sums() {
		for _, b := range sums() {
			want := bigSum(a.N, b.N)
			if a.Over {
				want = a
			} else if b.Over {
				want = b
			}
			if got := Add(a, b); got != want {
				t.Errorf("Add(%v, %v) = %v, want %v", a, b, got, want)
			}
		}
	}
}

// P1.1, P1.2: Total.
func TestTotal(t *testing.T) {
	for _, x := range []struct {
		l    []api.Sum
		want api.Sum
	}{
		{nil, Of(0)},
		{[]api.Sum{}, Of(0)},
		{[]api.Sum{Of(7)}, Of(7)},
		{[]api.Sum{over(7)}, over(7)},
		{[]api.Sum{Of(low)}, Of(low)},
		{[]api.Sum{Of(1), Of(2), Of(-4)}, Of(-1)},
		{[]api.Sum{Of(top), Of(1), Of(-9)}, over(top)},
		{[]api.Sum{Of(-9), Of(top), Of(1)}, Of(top - 8)},
		{[]api.Sum{Of(low), Of(-1), Of(top), Of(top)}, over(low)},
		{[]api.Sum{Of(1), over(3), over(4), Of(9)}, over(3)},
		{[]api.Sum{Of(top), Of(1), over(3)}, over(top)},
	} {
		if got := Total(x.l...); got != x.want {
			t.Errorf("Total(%v) = %v, want %v", x.l, got, x.want)
		}
	}
	if got := Total(); got != Of(0) {
		t.Errorf("Total() = %v", got)
	}
}

// P1.2: a total that ran over stays so, with whatever comes behind; a list that is handed in is as it was.
func TestTotalGoesOn(t *testing.T) {
	l := sums()
	was := sums()
	want := api.Sum{}
	for i := range l {
		want = Add(want, l[i])
		if got := Total(l[:i+1]...); got != want {
			t.Errorf("Total of %d = %v, want %v", i+1, got, want)
		}
	}
	for i := range l {
		if l[i] != was[i] {
			t.Errorf("item %d was changed to %v", i, l[i])
		}
	}
}

// P1.1: Text, Parse, Number and Read, on texts that are right.
func TestRightTexts(t *testing.T) {
	for _, x := range []struct {
		s string
		n int64
	}{
		{"0", 0}, {"1", 1}, {"9", 9}, {"10", 10}, {"-1", -1}, {"-10", -10}, {"100", 100}, {"1234567890", 1234567890},
		{"9223372036854775806", top - 1}, {"9223372036854775807", top},
		{"-9223372036854775807", low + 1}, {"-9223372036854775808", low},
	} {
		if got := Number(x.n); got != x.s {
			t.Errorf("Number(%d) = %q", x.n, got)
		}
		if got, e := Read(x.s); e != api.OK || got != x.n {
			t.Errorf("Read(%q) = %d, %d", x.s, got, e)
		}
		for s, want := range map[string]api.Sum{x.s: Of(x.n), x.s + "!": over(x.n)} {
			if got := Text(want); got != s {
				t.Errorf("Text(%v) = %q, want %q", want, got, s)
			}
			if got, e := Parse(s); e != api.OK || got != want {
				t.Errorf("Parse(%q) = %v, %d", s, got, e)
			}
		}
	}
}

// P1.1: each wrong text has its error, with or without a ! behind, and nothing beside it.
func TestWrongTexts(t *testing.T) {
	for s, want := range map[string]api.Errno{
		"": api.ErrForm, "-": api.ErrForm, "--1": api.ErrForm, "1-": api.ErrForm, "1-1": api.ErrForm,
		"-0": api.ErrForm, "00": api.ErrForm, "01": api.ErrForm, "-00": api.ErrForm, "-01": api.ErrForm,
		"0009223372036854775808": api.ErrForm, "-09223372036854775809": api.ErrForm,
		"+1": api.ErrForm, "+0": api.ErrForm, "-+1": api.ErrForm,
		" 1": api.ErrForm, "1 ": api.ErrForm, "- 1": api.ErrForm, "1\n": api.ErrForm, "1\x00": api.ErrForm,
		"1_0": api.ErrForm, "1.0": api.ErrForm, "1e3": api.ErrForm, "0x1": api.ErrForm, "0b1": api.ErrForm, "a": api.ErrForm,
		"/": api.ErrForm, ":": api.ErrForm, "\xff": api.ErrForm, "١": api.ErrForm, "−1": api.ErrForm,
		"99999999999999999999999x": api.ErrForm, "x99999999999999999999999": api.ErrForm,
		"!1": api.ErrForm, "1!2": api.ErrForm,
		"9223372036854775808": api.ErrRange, "-9223372036854775809": api.ErrRange,
		"10000000000000000000": api.ErrRange, "-10000000000000000000": api.ErrRange,
		"18446744073709551616": api.ErrRange, "-18446744073709551616": api.ErrRange, "18446744073709551617": api.ErrRange,
		"99999999999999999999999": api.ErrRange, "-99999999999999999999999": api.ErrRange,
		"1" + strings.Repeat("0", 5000): api.ErrRange, "-1" + strings.Repeat("0", 5000): api.ErrRange,
	} {
		if n, e := Read(s); e != want || n != 0 {
			t.Errorf("Read(%q) = %d, %d, want error %d", s, n, e, want)
		}
		for _, p := range []string{s, s + "!"} {
			if got, e := Parse(p); e != want || got != (api.Sum{}) {
				t.Errorf("Parse(%q) = %v, %d, want error %d", p, got, e, want)
			}
		}
	}
}

// P1.1: one ! at the end is a sum's, but no number's; two are nobody's.
func TestMarkAtTheEnd(t *testing.T) {
	for _, s := range []string{"1!", "0!", "-7!", "!", "9223372036854775807!", "9223372036854775808!"} {
		if n, e := Read(s); e != api.ErrForm || n != 0 {
			t.Errorf("Read(%q) = %d, %d", s, n, e)
		}
	}
	for _, s := range []string{"!", "!!", "1!!", "-0!", "1! ", "1!\n", "9223372036854775808!!"} {
		if got, e := Parse(s); e != api.ErrForm || got != (api.Sum{}) {
			t.Errorf("Parse(%q) = %v, %d", s, got, e)
		}
	}
}

// P1.3: a sum's text is parsed as it.
func TestThereAndBack(t *testing.T) {
	for _, s := range sums() {
		if got, e := Parse(Text(s)); e != api.OK || got != s {
			t.Errorf("Parse(%q) = %v, %d", Text(s), got, e)
		}
		if got, e := Read(Number(s.N)); e != api.OK || got != s.N {
			t.Errorf("Read(%q) = %d, %d", Number(s.N), got, e)
		}
	}
}

// expected is what Parse must answer, told by other means: a pattern, and numbers that have no end.
func expected(s string) (api.Sum, api.Errno) {
	m := regexp.MustCompile(`\A(0|-?[1-9][0-9]*)(!?)\z`).FindStringSubmatch(s)
	if m == nil {
		return api.Sum{}, api.ErrForm
	}
	n, _ := new(big.Int).SetString(m[1], 10)
	if !n.IsInt64() {
		return api.Sum{}, api.ErrRange
	}
	return api.Sum{N: n.Int64(), Over: m[2] == "!"}, api.OK
}

// checkText holds Parse and Read of any text against what is expected, and what is parsed against its text.
func checkText(t *testing.T, s string) {
	want, wantE := expected(s)
	got, e := Parse(s)
	if got != want || e != wantE {
		t.Errorf("Parse(%q) = %v, %d, want %v, %d", s, got, e, want, wantE)
	}
	if e == api.OK && Text(got) != s {
		t.Errorf("Text(Parse(%q)) = %q", s, Text(got))
	}
	if strings.HasSuffix(s, "!") {
		want, wantE = api.Sum{}, api.ErrForm
	}
	if n, e := Read(s); n != want.N || e != wantE {
		t.Errorf("Read(%q) = %d, %d, want %d, %d", s, n, e, want.N, wantE)
	}
}

// P1.1, P1.3: what is parsed has just that text; here for all short texts of the bytes that matter.
func TestAllShortTexts(t *testing.T) {
	const bytes = "019-!+ x"
	texts := []string{""}
	for range 5 {
		longer := []string{}
		for _, s := range texts {
			checkText(t, s)
			for i := range len(bytes) {
				longer = append(longer, s+bytes[i:i+1])
			}
		}
		texts = longer
	}
}

// P1.1, P1.3: the same about the ends of 64 bits.
func TestTextsAboutTheEnds(t *testing.T) {
	for _, end := range []int64{top, low} {
		for d := int64(-20); d <= 20; d++ {
			s := new(big.Int).Add(big.NewInt(end), big.NewInt(d)).String()
			for _, x := range []string{s, s + "!", s + "0", s + "0!", "0" + s, s[1:]} {
				checkText(t, x)
			}
		}
	}
}

// P1.1, P1.3: the same for whatever a fuzzer finds.
func FuzzTexts(f *testing.F) {
	for _, s := range []string{"", "0", "-0", "-1!", "007", "9223372036854775808", "1!!"} {
		f.Add(s)
	}
	f.Fuzz(checkText)
}
