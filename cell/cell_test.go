package cell

import (
	"math"
	"math/big"
	"slices"
	"testing"

	"ebbtide/api"
	"ebbtide/lists"
)

const (
	top = math.MaxInt64
	low = math.MinInt64
)

// sum is a number that didn't run over, over one that did.
func sum(n int64) api.Sum  { return api.Sum{N: n} }
func over(n int64) api.Sum { return api.Sum{N: n, Over: true} }

// made is a cell by its parts.
func made(count int64, s api.Sum, least, greatest int64) api.Cell {
	return api.Cell{Count: count, Sum: s, Min: least, Max: greatest}
}

// empties are cells that are empty, though all but one have something beside their counts.
func empties() []api.Cell {
	return []api.Cell{
		{},
		made(0, sum(9), -100, 100),
		made(0, over(top), 5, 6),
		made(-1, sum(9), -100, 100),
		made(-3, over(-4), 100, -100),
		made(low, sum(low), low, top),
	}
}

// cells are empty ones, and such as samples make, or can't make.
func cells() []api.Cell {
	return append(empties(),
		made(1, sum(5), 5, 5),
		made(2, sum(2), -1, 3),
		made(3, over(top), -5, top),
		made(2, over(low), low, -1),
		made(4, over(0), 8, -8),
		made(top-1, sum(top), 0, top),
		made(top, sum(low), low, 0),
		made(top/2+1, sum(-1), -7, 7),
		made(top/2, sum(1), top, low),
	)
}

// samples are about 0 and about the ends.
func samples() []int64 { return []int64{0, 1, -1, 7, top, top - 1, low, low + 1} }

// bigAdd adds by numbers that have no end.
func bigAdd(a, b int64) *big.Int { return new(big.Int).Add(big.NewInt(a), big.NewInt(b)) }

// addedTo is what the chapter of sums says of b added to a.
func addedTo(a, b api.Sum) api.Sum {
	n := bigAdd(a.N, b.N)
	switch {
	case a.Over:
		return a
	case b.Over:
		return b
	case n.IsInt64():
		return sum(n.Int64())
	case n.Sign() > 0:
		return over(top)
	}
	return over(low)
}

// counted is the counts together, at most the greatest number.
func counted(a, b int64) int64 {
	if n := bigAdd(a, b); n.IsInt64() {
		return n.Int64()
	}
	return top
}

// merged is what Merge must answer: all of the cells that are not empty, part by part.
func merged(l []api.Cell) api.Cell {
	full := slices.DeleteFunc(slices.Clone(l), func(c api.Cell) bool { return c.Count <= 0 })
	if len(full) == 0 {
		return api.Cell{}
	}
	want := full[0]
	for _, c := range full[1:] {
		want.Count = counted(want.Count, c.Count)
		want.Sum = addedTo(want.Sum, c.Sum)
		want.Min = slices.Min([]int64{want.Min, c.Min})
		want.Max = slices.Max([]int64{want.Max, c.Max})
	}
	return want
}

// known is what Of must answer, told of all samples at once.
func known(l []int64) api.Cell {
	if len(l) == 0 {
		return api.Cell{}
	}
	s := api.Sum{}
	for _, v := range l {
		s = addedTo(s, sum(v))
	}
	return made(int64(len(l)), s, slices.Min(l), slices.Max(l))
}

// P6.1: Empty.
func TestEmpty(t *testing.T) {
	for _, c := range empties() {
		if !Empty(c) {
			t.Errorf("%v is not empty", c)
		}
	}
	for _, c := range cells()[len(empties()):] {
		if Empty(c) {
			t.Errorf("%v is empty", c)
		}
	}
	if Empty(api.Cell{Count: 1}) {
		t.Error("a count of 1 is empty")
	}
}

// P6.1: Fold, by hand.
func TestFold(t *testing.T) {
	c := made(2, sum(2), -1, 3)
	for _, x := range []struct {
		c    api.Cell
		v    int64
		want api.Cell
	}{
		{c, -2, made(3, sum(0), -2, 3)},
		{c, -1, made(3, sum(1), -1, 3)},
		{c, 0, made(3, sum(2), -1, 3)},
		{c, 3, made(3, sum(5), -1, 3)},
		{c, 4, made(3, sum(6), -1, 4)},
		{c, low, made(3, sum(low+2), low, 3)},
		{c, top - 2, made(3, sum(top), -1, top-2)},
		{c, top - 1, made(3, over(top), -1, top-1)},
		{c, top, made(3, over(top), -1, top)},
		{made(2, sum(-2), -3, 1), low + 2, made(3, sum(low), low+2, 1)},
		{made(2, sum(-2), -3, 1), low + 1, made(3, over(low), low+1, 1)},
		{made(2, sum(-2), -3, 1), low, made(3, over(low), low, 1)},
		{made(2, over(top), 1, top), -5, made(3, over(top), -5, top)},
		{made(2, over(low), low, -1), top, made(3, over(low), low, top)},
		{made(2, over(6), 1, 2), 9, made(3, over(6), 1, 9)},
		{made(top-1, sum(0), 0, 0), 5, made(top, sum(5), 0, 5)},
		{made(top, sum(0), 0, 0), 5, made(top, sum(5), 0, 5)},
		{made(top, sum(0), 0, 0), -5, made(top, sum(-5), -5, 0)},
		{made(1, sum(0), 8, -8), 0, made(2, sum(0), 0, 0)},
		{made(1, sum(0), 8, -8), 9, made(2, sum(9), 8, 9)},
	} {
		if got := Fold(x.c, x.v); got != x.want {
			t.Errorf("Fold(%v, %d) = %v, want %v", x.c, x.v, got, x.want)
		}
	}
}

// P6.1: whatever an empty cell has, one sample is all that is known then.
func TestFoldIntoEmpty(t *testing.T) {
	for _, c := range empties() {
		for _, v := range samples() {
			if got := Fold(c, v); got != made(1, sum(v), v, v) {
				t.Errorf("Fold(%v, %d) = %v", c, v, got)
			}
		}
	}
}

// P6.1: Fold of each cell and each sample, as the chapter says it, part by part.
func TestFoldOfEach(t *testing.T) {
	for _, c := range cells() {
		for _, v := range samples() {
			want := merged([]api.Cell{c, made(1, sum(v), v, v)})
			if got := Fold(c, v); got != want {
				t.Errorf("Fold(%v, %d) = %v, want %v", c, v, got, want)
			}
		}
	}
}

// P6.1: Of, by hand.
func TestOf(t *testing.T) {
	for _, x := range []struct {
		l    []int64
		want api.Cell
	}{
		{nil, api.Cell{}},
		{[]int64{}, api.Cell{}},
		{[]int64{0}, made(1, sum(0), 0, 0)},
		{[]int64{5}, made(1, sum(5), 5, 5)},
		{[]int64{-5}, made(1, sum(-5), -5, -5)},
		{[]int64{top}, made(1, sum(top), top, top)},
		{[]int64{low}, made(1, sum(low), low, low)},
		{[]int64{3, -1}, made(2, sum(2), -1, 3)},
		{[]int64{-1, 3}, made(2, sum(2), -1, 3)},
		{[]int64{4, 2, 9, 3}, made(4, sum(18), 2, 9)},
		{[]int64{top, 1, -5}, made(3, over(top), -5, top)},
		{[]int64{-5, top, 1}, made(3, sum(top-4), -5, top)},
		{[]int64{low, -1, 5}, made(3, over(low), low, 5)},
		{[]int64{5, low, -1}, made(3, sum(low+4), low, 5)},
		{[]int64{low, top}, made(2, sum(-1), low, top)},
		{[]int64{top, 1, low, low, low}, made(5, over(top), low, top)},
		{[]int64{low, -1, top, top, top}, made(5, over(low), low, top)},
	} {
		if got := Of(x.l...); got != x.want {
			t.Errorf("Of(%v) = %v, want %v", x.l, got, x.want)
		}
	}
	if got := Of(); got != (api.Cell{}) {
		t.Errorf("Of() = %v", got)
	}
}

// P6.1: Merge, by hand.
func TestMerge(t *testing.T) {
	a, b := made(2, sum(3), 1, 2), made(1, sum(-7), -7, -7)
	ab := made(3, sum(-4), -7, 2)
	for _, x := range []struct {
		l    []api.Cell
		want api.Cell
	}{
		{nil, api.Cell{}},
		{[]api.Cell{}, api.Cell{}},
		{[]api.Cell{a}, a},
		{[]api.Cell{a, b}, ab},
		{[]api.Cell{b, a}, ab},
		{[]api.Cell{a, b, a}, made(5, sum(-1), -7, 2)},
		{[]api.Cell{made(4, over(0), 8, -8)}, made(4, over(0), 8, -8)},
		{[]api.Cell{made(2, sum(10), 1, 9), made(2, sum(8), 3, 5)}, made(4, sum(18), 1, 9)},
		{[]api.Cell{made(2, sum(8), 3, 5), made(2, sum(10), 1, 9)}, made(4, sum(18), 1, 9)},
		{[]api.Cell{made(top-2, sum(0), 0, 0), a}, made(top, sum(3), 0, 2)},
		{[]api.Cell{made(top-1, sum(0), 0, 0), a}, made(top, sum(3), 0, 2)},
		{[]api.Cell{made(top-1, sum(0), 0, 0), b}, made(top, sum(-7), -7, 0)},
		{[]api.Cell{made(top, sum(0), 0, 0), a}, made(top, sum(3), 0, 2)},
		{[]api.Cell{a, made(top, sum(0), 0, 0)}, made(top, sum(3), 0, 2)},
		{[]api.Cell{made(top/2, sum(0), 0, 0), made(top/2+1, sum(0), 0, 0)}, made(top, sum(0), 0, 0)},
		{[]api.Cell{made(top/2+1, sum(0), 0, 0), made(top/2+1, sum(0), 0, 0)}, made(top, sum(0), 0, 0)},
		{[]api.Cell{made(top, sum(0), 0, 0), made(top, sum(0), 0, 0)}, made(top, sum(0), 0, 0)},
		{[]api.Cell{made(1, sum(top), 0, 0), made(1, sum(1), 0, 0), made(1, sum(-9), 0, 0)}, made(3, over(top), 0, 0)},
		{[]api.Cell{made(1, sum(low), 0, 0), made(1, sum(-1), 0, 0), made(1, sum(9), 0, 0)}, made(3, over(low), 0, 0)},
		{[]api.Cell{made(1, sum(-9), 0, 0), made(1, sum(top), 0, 0), made(1, sum(1), 0, 0)}, made(3, sum(top-8), 0, 0)},
		{[]api.Cell{made(1, over(4), 0, 0), made(1, over(5), 0, 0)}, made(2, over(4), 0, 0)},
		{[]api.Cell{made(1, over(5), 0, 0), made(1, over(4), 0, 0)}, made(2, over(5), 0, 0)},
		{[]api.Cell{made(1, sum(top), 0, 0), made(1, over(4), 0, 0)}, made(2, over(4), 0, 0)},
	} {
		if got := Merge(x.l...); got != x.want {
			t.Errorf("Merge(%v) = %v, want %v", x.l, got, x.want)
		}
	}
	if got := Merge(); got != (api.Cell{}) {
		t.Errorf("Merge() = %v", got)
	}
}

// P6.1: an empty cell doesn't count, wherever it stands and whatever it has beside its count.
func TestMergeOfEmpty(t *testing.T) {
	a, b := made(2, sum(3), 1, 2), made(1, sum(-7), -7, -7)
	ab := made(3, sum(-4), -7, 2)
	for _, e := range empties() {
		for _, x := range []struct {
			l    []api.Cell
			want api.Cell
		}{
			{[]api.Cell{e}, api.Cell{}},
			{[]api.Cell{e, e}, api.Cell{}},
			{[]api.Cell{e, a}, a},
			{[]api.Cell{a, e}, a},
			{[]api.Cell{e, a, b}, ab},
			{[]api.Cell{a, e, b}, ab},
			{[]api.Cell{a, b, e}, ab},
			{[]api.Cell{e, e, a, e, e, b, e, e}, ab},
		} {
			if got := Merge(x.l...); got != x.want {
				t.Errorf("Merge(%v) = %v, want %v", x.l, got, x.want)
			}
		}
	}
	if got := Merge(empties()...); got != (api.Cell{}) {
		t.Errorf("Merge of nothing but empty ones = %v", got)
	}
}

// P6.1: Merge of all short lists of cells, as the chapter says it, part by part.
func TestMergeOfShort(t *testing.T) {
	lists.EachShort(cells(), 4, func(l []api.Cell) {
		if got, want := Merge(l...), merged(l); got != want {
			t.Errorf("Merge(%v) = %v, want %v", l, got, want)
		}
	})
}

// P6.1: Value of each cell, also of an empty one: each agg tells just its part, another one 0.
func TestValue(t *testing.T) {
	for _, c := range append(cells(), made(11, sum(12), 13, 14), made(11, over(12), 13, 14)) {
		for agg, want := range map[int]api.Sum{
			api.AggCount: sum(c.Count), api.AggSum: c.Sum, api.AggMin: sum(c.Min), api.AggMax: sum(c.Max),
			0: {}, 5: {}, -1: {}, -2: {}, 6: {}, 256 + 1: {}, math.MaxInt: {}, math.MinInt: {},
		} {
			if got := Value(c, agg); got != want {
				t.Errorf("Value(%v, %d) = %v, want %v", c, agg, got, want)
			}
		}
	}
}

// P6.2: samples that are cut, by hand: at the beginning, at the end, between; the sum runs over in one part, in both, or only when merged.
func TestTogether(t *testing.T) {
	for _, x := range []struct {
		l           []int64
		cut         int
		whole, part api.Sum
	}{
		{nil, 0, sum(0), sum(0)},
		{[]int64{5}, 0, sum(5), sum(5)},
		{[]int64{5}, 1, sum(5), sum(5)},
		{[]int64{4, -2, 9}, 0, sum(11), sum(11)},
		{[]int64{4, -2, 9}, 1, sum(11), sum(11)},
		{[]int64{4, -2, 9}, 2, sum(11), sum(11)},
		{[]int64{4, -2, 9}, 3, sum(11), sum(11)},
		{[]int64{top, low, top, low}, 2, sum(-2), sum(-2)},
		{[]int64{low, top, low, top}, 2, over(low), sum(-2)},
		{[]int64{top, 1, -9}, 0, over(top), over(top)},
		{[]int64{top, 1, -9}, 1, over(top), sum(top - 8)},
		{[]int64{top, 1, -9}, 2, over(top), over(top)},
		{[]int64{top, 1, -9}, 3, over(top), over(top)},
		{[]int64{-9, top, 1}, 1, sum(top - 8), over(top)},
		{[]int64{9, low, -1}, 1, sum(low + 8), over(low)},
		{[]int64{top, 1, low, -1}, 2, over(top), over(top)},
		{[]int64{low, -1, top, 1}, 2, over(low), over(low)},
		{[]int64{3, top - 4, 2}, 2, over(top), over(top)},
		{[]int64{-3, low + 4, -2}, 2, over(low), over(low)},
	} {
		whole, part := Of(x.l...), Merge(Of(x.l[:x.cut]...), Of(x.l[x.cut:]...))
		if whole.Sum != x.whole || part.Sum != x.part {
			t.Errorf("%v, cut at %d: sums %v and %v, want %v and %v", x.l, x.cut, whole.Sum, part.Sum, x.whole, x.part)
		}
		whole.Sum, part.Sum = api.Sum{}, api.Sum{}
		if whole != part {
			t.Errorf("%v, cut at %d: %v and %v", x.l, x.cut, whole, part)
		}
	}
}

// P6.1, P6.2: all short lists of samples, cut anywhere: Of is what is known of them, and so are the parts, but for a sum that ran over.
func TestTogetherOfShort(t *testing.T) {
	lists.EachShort([]int64{0, 3, -2, top, low, top/2 + 1, low/2 - 1}, 5, func(l []int64) {
		want := known(l)
		if got := Of(l...); got != want {
			t.Errorf("Of(%v) = %v, want %v", l, got, want)
		}
		for cut := range len(l) + 1 {
			a, b := Of(l[:cut]...), Of(l[cut:]...)
			got, due := Merge(a, b), want
			if a.Sum.Over || b.Sum.Over || got.Sum.Over || want.Sum.Over {
				due.Sum = addedTo(known(l[:cut]).Sum, known(l[cut:]).Sum)
			}
			if got != due {
				t.Errorf("%v, cut at %d: %v, want %v", l, cut, got, due)
			}
		}
	})
}

// P6.1, P6.2: many samples, folded one by one, and in as many parts.
func TestMany(t *testing.T) {
	l := []int64{}
	parts := []api.Cell{}
	c := api.Cell{}
	for i := range int64(1000) {
		v := i*i%97 - 40
		l = append(l, v)
		parts = append(parts, Of(v))
		c = Fold(c, v)
		want := known(l)
		if c != want || Of(l...) != want || Merge(parts...) != want {
			t.Fatalf("%d samples: %v, %v, %v, want %v", i+1, c, Of(l...), Merge(parts...), want)
		}
	}
}

// What is handed in is as it was, the room behind it too.
func TestArgumentsAreAsTheyWere(t *testing.T) {
	n, wasN := samples(), samples()
	c, wasC := cells(), cells()
	for i := range n {
		Of(n[:i]...)
	}
	for i := range c {
		Merge(c[:i]...)
	}
	if !slices.Equal(n, wasN) {
		t.Errorf("samples became %v", n)
	}
	if !slices.Equal(c, wasC) {
		t.Errorf("cells became %v", c)
	}
}
