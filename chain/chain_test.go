package chain

import (
	"math"
	"slices"
	"testing"

	"ebbtide/api"
	"ebbtide/cell"
	"ebbtide/lists"
)

const (
	top = math.MaxInt64
	low = math.MinInt64
	end = api.MaxStamp
)

// made is a cell by its parts.
func made(count int64, sum api.Sum, least, greatest int64) api.Cell {
	return api.Cell{Count: count, Sum: sum, Min: least, Max: greatest}
}

// sum is a number that didn't run over, over one that did.
func sum(n int64) api.Sum  { return api.Sum{N: n} }
func over(n int64) api.Sum { return api.Sum{N: n, Over: true} }

// version is one of a stamp and a cell.
func version(stamp int64, c api.Cell) api.Version { return api.Version{Stamp: stamp, Cell: c} }

// versions are of stamps; each one's cell tells its place, too, so that two of one stamp aren't taken for each other.
func versions(stamps ...int64) []api.Version {
	l := []api.Version{}
	for place, s := range stamps {
		l = append(l, version(s, cell.Of(s, int64(place))))
	}
	return l
}

// someStamps are in order in some lists only, or in none.
func someStamps() []int64 { return []int64{low, -1, 0, 1, 2, 4, end - 1, end, end + 1, top} }

// roomy is l with spare room behind it that is not empty, and all of that.
func roomy(l []api.Version) (short, whole []api.Version) {
	whole = slices.Concat(l, []api.Version{version(77, cell.Of(7)), version(3, cell.Of(8)), version(78, cell.Of(9))})
	return whole[:len(l)], whole
}

// equal: one by one; a list of nothing is one of nothing, nil or empty.
func equal(a, b []api.Version) bool {
	if len(a) != len(b) {
		return false
	}
	for i := range a {
		if a[i].Stamp != b[i].Stamp || a[i].Cell != b[i].Cell {
			return false
		}
	}
	return true
}

// stampsOf are theirs.
func stampsOf(l []api.Version) []int64 {
	stamps := []int64{}
	for _, v := range l {
		stamps = append(stamps, v.Stamp)
	}
	return stamps
}

// wantRight is what Right must answer: each stamp is one that may be, and each two rise.
func wantRight(l []api.Version) bool {
	for i, a := range l {
		if a.Stamp < 1 || a.Stamp > 1000000000000000 {
			return false
		}
		for _, b := range l[i+1:] {
			if a.Stamp >= b.Stamp {
				return false
			}
		}
	}
	return true
}

// wantAt is what At must answer: of those that are not above stamp the last one.
func wantAt(l []api.Version, stamp int64) api.Cell {
	found := api.Cell{}
	for _, v := range l {
		if v.Stamp <= stamp {
			found = v.Cell
		}
	}
	return found
}

// wantPut is what Put must answer.
func wantPut(l, more []api.Version) ([]api.Version, api.Errno) {
	both := append(slices.Clone(l), more...)
	if !wantRight(both) {
		return nil, api.ErrOrder
	}
	return both, api.OK
}

// wantFold is what Fold must answer.
func wantFold(l []api.Version, stamp, v int64) ([]api.Version, api.Errno) {
	ahead := api.Cell{}
	for _, w := range l {
		ahead = w.Cell
	}
	return wantPut(l, []api.Version{version(stamp, cell.Fold(ahead, v))})
}

// wantPrune is what Prune must answer: each is left that is above the floor, or has none behind it that isn't.
func wantPrune(l []api.Version, floor int64) []api.Version {
	left := []api.Version{}
	for i, v := range l {
		if v.Stamp > floor || !slices.ContainsFunc(l[i+1:], func(w api.Version) bool { return w.Stamp <= floor }) {
			left = append(left, v)
		}
	}
	return left
}

// checkReads holds Right, Last, and At of each of some stamps, against what is wanted, and l against what it was.
func checkReads(t *testing.T, l []api.Version, stamps []int64) {
	t.Helper()
	l, whole := roomy(l)
	was := slices.Clone(whole)
	if got := Right(l); got != wantRight(l) {
		t.Errorf("Right of %v = %v", stampsOf(l), got)
	}
	last := int64(0)
	for _, v := range l {
		last = v.Stamp
	}
	if got := Last(l); got != last {
		t.Errorf("Last of %v = %d", stampsOf(l), got)
	}
	for _, s := range stamps {
		if got, want := At(l, s), wantAt(l, s); got != want {
			t.Errorf("At of %v and %d = %v, want %v", stampsOf(l), s, got, want)
		}
	}
	if !equal(whole, was) {
		t.Errorf("%v became %v", was, whole)
	}
}

// checkPut holds Put against what is wanted, and what was handed in against what it was, also when the answer is written into.
func checkPut(t *testing.T, l, more, want []api.Version, e api.Errno) {
	t.Helper()
	l, whole := roomy(l)
	more, wholeMore := roomy(more)
	was, wasMore := slices.Clone(whole), slices.Clone(wholeMore)
	got, f := Put(l, more...)
	if f != e || !equal(got, want) {
		t.Errorf("Put(%v, %v) = %v, %d, want %v, %d", l, more, got, f, want, e)
	}
	clear(got[:cap(got)])
	if !equal(whole, was) || !equal(wholeMore, wasMore) {
		t.Errorf("%v and %v became %v and %v", was, wasMore, whole, wholeMore)
	}
}

// checkFold holds Fold against what is wanted, and l so.
func checkFold(t *testing.T, l []api.Version, stamp, v int64, want []api.Version, e api.Errno) {
	t.Helper()
	l, whole := roomy(l)
	was := slices.Clone(whole)
	got, f := Fold(l, stamp, v)
	if f != e || !equal(got, want) {
		t.Errorf("Fold(%v, %d, %d) = %v, %d, want %v, %d", l, stamp, v, got, f, want, e)
	}
	clear(got[:cap(got)])
	if !equal(whole, was) {
		t.Errorf("%v became %v", was, whole)
	}
}

// checkPrune holds Prune against what is wanted, and l so.
func checkPrune(t *testing.T, l []api.Version, floor int64, want []api.Version) {
	t.Helper()
	l, whole := roomy(l)
	was := slices.Clone(whole)
	got := Prune(l, floor)
	if !equal(got, want) {
		t.Errorf("Prune(%v, %d) = %v, want %v", l, floor, got, want)
	}
	clear(got[:cap(got)])
	if !equal(whole, was) {
		t.Errorf("%v became %v", was, whole)
	}
}

// P10.1: Right, by hand.
func TestRight(t *testing.T) {
	if !Right(nil) || !Right([]api.Version{}) {
		t.Error("no versions are not in order")
	}
	for _, stamps := range [][]int64{
		{1}, {2}, {7}, {end - 1}, {end},
		{1, 2}, {1, end}, {9, 10}, {end - 1, end}, {2, 5, 9}, {1, 2, 3, 4, 5}, {1, 1 << 32, 1<<32 + 1},
	} {
		if !Right(versions(stamps...)) {
			t.Errorf("%v are not in order", stamps)
		}
	}
	for _, stamps := range [][]int64{
		{0}, {-1}, {low}, {end + 1}, {top}, {0, 1}, {-1, 1}, {1, end + 1}, {1, top}, {low, top},
		{1, 1}, {end, end}, {0, 0}, {2, 5, 5}, {2, 2, 5}, {2, 5, 2},
		{2, 1}, {10, 9}, {end, 1}, {2, 9, 5}, {5, 2, 9}, {2, 5, 0}, {2, 5, -9}, {1, 2, 3, 5, 4}, {1 << 32, 1},
	} {
		if Right(versions(stamps...)) {
			t.Errorf("%v are in order", stamps)
		}
	}
}

// P10.1: whatever cells there are, the stamps alone make the order.
func TestRightOfAnyCells(t *testing.T) {
	l := []api.Version{version(1, made(-3, over(0), 5, -5)), version(2, api.Cell{}), version(3, made(1, sum(4), 4, 4)), version(4, made(1, sum(4), 4, 4))}
	if !Right(l) {
		t.Errorf("%v are not in order", l)
	}
	l[3].Stamp = 3
	if Right(l) {
		t.Errorf("%v are in order", l)
	}
}

// P10.1: At, by hand; a place of -1 is that there is none.
func TestAt(t *testing.T) {
	for _, x := range []struct {
		stamps []int64
		places map[int64]int
	}{
		{nil, map[int64]int{low: -1, -1: -1, 0: -1, 1: -1, end: -1, top: -1}},
		{[]int64{1}, map[int64]int{low: -1, 0: -1, 1: 0, 2: 0, top: 0}},
		{[]int64{end}, map[int64]int{1: -1, end - 1: -1, end: 0, end + 1: 0, top: 0}},
		{[]int64{2, 5, 9}, map[int64]int{low: -1, -1: -1, 0: -1, 1: -1, 2: 0, 3: 0, 4: 0, 5: 1, 6: 1, 8: 1, 9: 2, 10: 2, end: 2, 1 << 62: 2, top: 2}},
		{[]int64{1, 2, 3}, map[int64]int{0: -1, 1: 0, 2: 1, 3: 2, 4: 2}},
		// not in order: the last one as they stand
		{[]int64{5, 2, 9}, map[int64]int{1: -1, 2: 1, 4: 1, 5: 1, 8: 1, 9: 2, 10: 2}},
		{[]int64{9, 5, 2}, map[int64]int{1: -1, 2: 2, 5: 2, 9: 2, top: 2}},
		{[]int64{2, 9, 5}, map[int64]int{1: -1, 2: 0, 4: 0, 5: 2, 9: 2, 10: 2}},
		{[]int64{1, 8, 3, 9, 4}, map[int64]int{0: -1, 1: 0, 2: 0, 3: 2, 4: 4, 8: 4, 9: 4}},
		{[]int64{5, 5, 5}, map[int64]int{4: -1, 5: 2, 6: 2}},
		{[]int64{2, 5, 5, 9, 9}, map[int64]int{4: 0, 5: 2, 8: 2, 9: 4}},
		// stamps that may not be
		{[]int64{low, -1, 0, end + 1, top}, map[int64]int{low: 0, -2: 0, -1: 1, 0: 2, 1: 2, end: 2, end + 1: 3, top - 1: 3, top: 4}},
		{[]int64{0}, map[int64]int{low: -1, -1: -1, 0: 0, 1: 0}},
		{[]int64{top, low}, map[int64]int{low: 1, 0: 1, top: 1}},
	} {
		l := versions(x.stamps...)
		for stamp, place := range x.places {
			want := api.Cell{}
			if place >= 0 {
				want = l[place].Cell
			}
			if got := At(l, stamp); got != want {
				t.Errorf("At of %v and %d = %v, want %v", x.stamps, stamp, got, want)
			}
		}
		checkReads(t, l, someStamps())
	}
}

// P10.1: the cell is told as it is, also one that no samples make.
func TestAtOfAnyCell(t *testing.T) {
	for _, c := range []api.Cell{{}, made(0, sum(9), -100, 100), made(-3, over(-4), 100, -100), made(4, over(0), 8, -8), made(top, sum(low), low, top)} {
		l := []api.Version{version(2, cell.Of(7)), version(5, c), version(9, cell.Of(8))}
		for stamp, want := range map[int64]api.Cell{1: {}, 4: cell.Of(7), 5: c, 8: c, 9: cell.Of(8)} {
			if got := At(l, stamp); got != want {
				t.Errorf("At of %v and %d = %v, want %v", l, stamp, got, want)
			}
		}
	}
}

// P10.1: Last, by hand.
func TestLast(t *testing.T) {
	if Last(nil) != 0 || Last([]api.Version{}) != 0 || Last(versions(2, 5)[:0]) != 0 {
		t.Error("no versions have a last one")
	}
	for _, stamps := range [][]int64{{1}, {end}, {2, 5, 9}, {5, 9, 2}, {9, 5, 5}, {2, 9, 5}, {0}, {3, 0}, {-1}, {3, -7}, {low}, {1, top}, {end + 1}} {
		if got := Last(versions(stamps...)); got != stamps[len(stamps)-1] {
			t.Errorf("Last of %v = %d", stamps, got)
		}
	}
}

// P10.1: Put, by hand: what is in order.
func TestPut(t *testing.T) {
	for _, x := range [][2][]int64{
		{nil, nil}, {nil, {1}}, {nil, {end}}, {nil, {2, 5, 9}},
		{{1}, nil}, {{end}, nil}, {{2, 5, 9}, nil},
		{{1}, {2}}, {{2, 5}, {6}}, {{2, 5}, {end}}, {{2, 5}, {6, 7, end}}, {{1}, {2, 3, 4}}, {{2, 5, 9}, {10}}, {{end - 1}, {end}},
	} {
		l, more := versions(x[0]...), versions(x[1]...)
		checkPut(t, l, more, slices.Concat(l, more), api.OK)
	}
	if l, e := Put(nil); e != api.OK || len(l) != 0 {
		t.Errorf("Put(nil) = %v, %d", l, e)
	}
	if l, e := Put(versions(2, 5)); e != api.OK || !equal(l, versions(2, 5)) {
		t.Errorf("Put of no more = %v, %d", l, e)
	}
}

// P10.1: Put, by hand: what isn't in order.
func TestPutNotInOrder(t *testing.T) {
	for _, x := range [][2][]int64{
		// more whose first Stamp is the last one's, or below it, though above others
		{{2, 5}, {5}}, {{2, 5}, {4}}, {{2, 5}, {2}}, {{2, 5}, {1}}, {{2, 5}, {3, 6}}, {{2, 5}, {5, 6}}, {{2, 5}, {2, 5}}, {{end}, {end}}, {{end}, {1}}, {{1}, {1}},
		// l not in order, with no more, too
		{{5, 2}, nil}, {{2, 2}, nil}, {{0}, nil}, {{-1}, nil}, {{end + 1}, nil}, {{0, 1}, nil}, {{2, 9, 5}, nil}, {{5, 2}, {6}}, {{5, 2}, {3}}, {{2, 2}, {3}}, {{0}, {1}}, {{low}, {1}}, {{0, 1}, {2}},
		// more not in order
		{{2, 5}, {7, 6}}, {{2, 5}, {6, 6}}, {{2, 5}, {6, 9, 8}}, {{2, 5}, {9, 5}}, {nil, {2, 2}}, {nil, {2, 1}}, {nil, {5, 2, 9}},
		// Stamps that may not be
		{nil, {0}}, {nil, {-1}}, {nil, {low}}, {nil, {0, 1}}, {nil, {end + 1}}, {nil, {top}}, {{2, 5}, {end + 1}}, {{2, 5}, {end, end + 1}}, {{2, 5}, {6, top}}, {{2, 5}, {0}}, {{end}, {end + 1}}, {{end}, {top}}, {{top}, {end}}, {{end + 1}, {end + 2}},
		// both
		{{5, 2}, {2, 1}}, {{0}, {end + 1}},
	} {
		checkPut(t, versions(x[0]...), versions(x[1]...), nil, api.ErrOrder)
	}
}

// P10.1: Put leaves each cell as it is.
func TestPutOfAnyCells(t *testing.T) {
	l := []api.Version{version(1, made(-3, over(0), 5, -5)), version(2, made(0, sum(9), 1, 2)), version(7, api.Cell{}), version(8, made(top, over(low), top, low))}
	for i := range len(l) + 1 {
		checkPut(t, l[:i], l[i:], l, api.OK)
	}
}

// P10.1: Fold, by hand.
func TestFold(t *testing.T) {
	five := version(5, made(2, sum(2), -1, 3))
	for _, x := range []struct {
		l        []api.Version
		stamp, v int64
		want     api.Cell
	}{
		// into none
		{nil, 1, 4, made(1, sum(4), 4, 4)},
		{nil, 1, 0, made(1, sum(0), 0, 0)},
		{nil, 7, -4, made(1, sum(-4), -4, -4)},
		{nil, end, low, made(1, sum(low), low, low)},
		{[]api.Version{}, 2, top, made(1, sum(top), top, top)},
		// behind others: the last one's cell alone counts
		{[]api.Version{five}, 6, 9, made(3, sum(11), -1, 9)},
		{[]api.Version{five}, 7, -3, made(3, sum(-1), -3, 3)},
		{[]api.Version{five}, end - 1, 0, made(3, sum(2), -1, 3)},
		{[]api.Version{five}, end, 0, made(3, sum(2), -1, 3)},
		{[]api.Version{version(2, made(50, sum(999), -500, 500)), five}, 6, 1, made(3, sum(3), -1, 3)},
		{[]api.Version{version(1, made(9, over(8), 7, 6)), version(2, api.Cell{}), five}, 100, 1, made(3, sum(3), -1, 3)},
		{[]api.Version{five, version(end-1, made(1, sum(8), 8, 8))}, end, 7, made(2, sum(15), 7, 8)},
		// a Sum that runs over, and one that did
		{[]api.Version{version(5, made(1, sum(top), top, top))}, 6, 1, made(2, over(top), 1, top)},
		{[]api.Version{version(5, made(1, sum(low), low, low))}, 6, -1, made(2, over(low), low, -1)},
		{[]api.Version{version(5, made(2, over(top), 1, top))}, 6, -9, made(3, over(top), -9, top)},
		{[]api.Version{version(5, made(2, over(6), 1, 2))}, 6, 9, made(3, over(6), 1, 9)},
		{[]api.Version{version(5, made(2, sum(top), 1, 2))}, 6, -9, made(3, sum(top-9), -9, 2)},
		// behind a cell that is empty, whatever it has
		{[]api.Version{five, version(6, api.Cell{})}, 7, 4, made(1, sum(4), 4, 4)},
		{[]api.Version{five, version(6, made(0, over(9), -100, 100))}, 7, 4, made(1, sum(4), 4, 4)},
		{[]api.Version{version(6, made(low, sum(low), low, top))}, 7, -4, made(1, sum(-4), -4, -4)},
		// a Count that can't be more
		{[]api.Version{version(6, made(top, sum(1), 0, 1))}, 7, 2, made(top, sum(3), 0, 2)},
	} {
		checkFold(t, x.l, x.stamp, x.v, append(slices.Clone(x.l), version(x.stamp, x.want)), api.OK)
	}
}

// P10.1: Fold, by hand: what Put doesn't take.
func TestFoldNotInOrder(t *testing.T) {
	for _, x := range []struct {
		stamps, at []int64
	}{
		{nil, []int64{low, -1, 0, end + 1, top}},
		{[]int64{1}, []int64{low, -1, 0, 1, end + 1, top}},
		{[]int64{2, 5}, []int64{low, -1, 0, 1, 2, 3, 4, 5, end + 1, top}},
		{[]int64{2, end}, []int64{0, 1, 2, 3, end - 1, end, end + 1, end + 2, top}},
		{[]int64{5, 2}, []int64{low, 0, 1, 2, 3, 5, 6, end, top}},
		{[]int64{5, 5}, []int64{0, 5, 6, end}},
		{[]int64{0}, []int64{0, 1, 2}},
		{[]int64{-1, 5}, []int64{0, 6}},
		{[]int64{end + 1}, []int64{end, end + 1, end + 2}},
		{[]int64{2, 9, 5}, []int64{6, 9, 10}},
	} {
		for _, stamp := range x.at {
			checkFold(t, versions(x.stamps...), stamp, 7, nil, api.ErrOrder)
		}
	}
}

// P10.1: Prune, by hand: the places that are left.
func TestPrune(t *testing.T) {
	for _, x := range []struct {
		stamps []int64
		floors []int64
		places []int
	}{
		{nil, []int64{low, 0, 5, end, top}, nil},
		{[]int64{1}, []int64{low, -1, 0, 1, 2, end, top}, []int{0}},
		{[]int64{end}, []int64{0, end - 1, end, end + 1, top}, []int{0}},
		{[]int64{2, 5, 9}, []int64{low, -1, 0, 1, 2, 3, 4}, []int{0, 1, 2}},
		{[]int64{2, 5, 9}, []int64{5, 6, 8}, []int{1, 2}},
		{[]int64{2, 5, 9}, []int64{9, 10, 100, end, end + 1, top}, []int{2}},
		{[]int64{1, 2, 3, 4}, []int64{0, 1}, []int{0, 1, 2, 3}},
		{[]int64{1, 2, 3, 4}, []int64{2}, []int{1, 2, 3}},
		{[]int64{1, 2, 3, 4}, []int64{3}, []int{2, 3}},
		{[]int64{1, 2, 3, 4}, []int64{4, 5}, []int{3}},
		// not in order: the last one as they stand, and all that are above the floor, where they stand
		{[]int64{5, 2, 9}, []int64{low, 1, 2, 3, 4}, []int{0, 1, 2}},
		{[]int64{5, 2, 9}, []int64{5, 8}, []int{1, 2}},
		{[]int64{5, 2, 9}, []int64{9, top}, []int{2}},
		{[]int64{9, 5, 2}, []int64{1, 2, 4}, []int{0, 1, 2}},
		{[]int64{9, 5, 2}, []int64{5, 8}, []int{0, 2}},
		{[]int64{9, 5, 2}, []int64{9}, []int{2}},
		{[]int64{1, 8, 3, 9, 4}, []int64{3}, []int{1, 2, 3, 4}},
		{[]int64{1, 8, 3, 9, 4}, []int64{4, 7}, []int{1, 3, 4}},
		{[]int64{1, 8, 3, 9, 4}, []int64{8}, []int{3, 4}},
		{[]int64{3, 9, 1, 8}, []int64{2}, []int{0, 1, 2, 3}},
		{[]int64{3, 9, 1, 8}, []int64{3, 7}, []int{1, 2, 3}},
		{[]int64{5, 5, 5}, []int64{4}, []int{0, 1, 2}},
		{[]int64{5, 5, 5}, []int64{5, 6}, []int{2}},
		{[]int64{2, 5, 5, 9, 9}, []int64{5}, []int{2, 3, 4}},
		// stamps that may not be
		{[]int64{low, -1, 0, end + 1, top}, []int64{low}, []int{0, 1, 2, 3, 4}},
		{[]int64{low, -1, 0, end + 1, top}, []int64{-1}, []int{1, 2, 3, 4}},
		{[]int64{low, -1, 0, end + 1, top}, []int64{0, 1, end}, []int{2, 3, 4}},
		{[]int64{low, -1, 0, end + 1, top}, []int64{top}, []int{4}},
	} {
		l := versions(x.stamps...)
		want := []api.Version{}
		for _, place := range x.places {
			want = append(want, l[place])
		}
		for _, floor := range x.floors {
			checkPrune(t, l, floor, want)
		}
	}
}

// P10.1: what is left has the cell that it had; that it is empty doesn't count.
func TestPruneOfAnyCells(t *testing.T) {
	l := []api.Version{version(2, cell.Of(7)), version(5, api.Cell{}), version(6, made(-3, over(9), 1, 2)), version(9, cell.Of(8))}
	for floor, want := range map[int64][]api.Version{1: l, 4: l, 5: l[1:], 6: l[2:], 8: l[2:], 9: l[3:]} {
		checkPrune(t, l, floor, want)
	}
}

// P10.1: Same, of each two of these: they differ in one part alone, in how many they are, in their order.
func TestSame(t *testing.T) {
	c := made(2, sum(3), 1, 2)
	a, b := version(3, c), version(9, made(1, sum(8), 8, 8))
	several := [][]api.Version{
		nil, {{}}, {{}, {}}, {a}, {b}, {a, b}, {b, a}, {a, a}, {b, b}, {a, b, b}, {a, a, b}, {a, b, {}}, {{}, a, b}, {version(3, api.Cell{}), b},
		{version(4, c), b}, {version(-3, c), b}, {version(3+1<<32, c), b},
		{version(3, made(3, sum(3), 1, 2)), b}, {version(3, made(-2, sum(3), 1, 2)), b}, {version(3, made(2+1<<32, sum(3), 1, 2)), b},
		{version(3, made(2, sum(4), 1, 2)), b}, {version(3, made(2, over(3), 1, 2)), b},
		{version(3, made(2, sum(3), 0, 2)), b}, {version(3, made(2, sum(3), 1, 3)), b}, {version(3, made(2, sum(3), 2, 1)), b},
		{a, version(10, made(1, sum(8), 8, 8))}, {a, version(9, made(1, sum(8), 8, 9))}, {a, version(9, made(1, over(8), 8, 8))},
	}
	for i, x := range several {
		for j, y := range several {
			x, whole := roomy(x)
			was := slices.Clone(whole)
			if got := Same(x, slices.Clone(y)); got != (i == j) {
				t.Errorf("Same(%v, %v) = %v", x, y, got)
			}
			if !equal(whole, was) {
				t.Errorf("%v became %v", was, whole)
			}
		}
	}
	for _, x := range [][]api.Version{nil, {}, versions(2, 5)[:0]} {
		for _, y := range [][]api.Version{nil, {}, versions(9)[:0]} {
			if !Same(x, y) {
				t.Errorf("Same(%#v, %#v) = false", x, y)
			}
		}
	}
	if l := versions(5, 2, 2); !Same(l, l) || Same(l, l[:2]) || Same(l[:2], l) || Same(l, nil) || Same(nil, l) {
		t.Error("Same of a list and a piece of it")
	}
}

// P10.1: all short lists of some stamps, in order and not.
func TestAllShort(t *testing.T) {
	lists.EachShort(someStamps(), 4, func(stamps []int64) {
		l := versions(stamps...)
		checkReads(t, l, someStamps())
		for _, floor := range someStamps() {
			checkPrune(t, l, floor, wantPrune(l, floor))
			want, e := wantFold(l, floor, -7)
			checkFold(t, l, floor, -7, want, e)
		}
		for cut := range len(l) + 1 {
			want, e := wantPut(l[:cut], l[cut:])
			checkPut(t, l[:cut], l[cut:], want, e)
		}
	})
}

// eachInOrder hands to call all versions in order of at most n of some stamps.
func eachInOrder(stamps []int64, n int, call func(l []api.Version)) {
	lists.EachShort(stamps, n, func(some []int64) {
		if l := versions(some...); wantRight(l) {
			call(l)
		}
	})
}

// about are stamps at, ahead of, between and behind those that eachInOrder is asked with, the least and the greatest number.
func about() []int64 {
	return []int64{low, -1, 0, 1, 2, 3, 4, 5, 6, 7, 8, end - 1, end, end + 1, top}
}

// P10.2: pruned at a floor, versions tell from it on what they told, and one at most is of a stamp up to it; pruned once more at another one, they still do from the greater one on.
func TestWhatIsReadStays(t *testing.T) {
	count := 0
	eachInOrder([]int64{1, 2, 4, 5, 7, end}, 4, func(l []api.Version) {
		count++
		for _, floor := range about() {
			pruned := Prune(l, floor)
			if !Right(pruned) {
				t.Errorf("%v, pruned at %d: %v", stampsOf(l), floor, stampsOf(pruned))
			}
			checkUpTo(t, pruned, floor)
			checkFrom(t, floor, l, pruned)
			for _, next := range about() {
				again := Prune(pruned, next)
				checkUpTo(t, again, max(floor, next))
				checkFrom(t, max(floor, next), l, again)
				if !equal(again, Prune(l, max(floor, next))) {
					t.Errorf("%v, pruned at %d and %d: %v", stampsOf(l), floor, next, stampsOf(again))
				}
			}
		}
	})
	// of 6 stamps none, each, each two, three, four
	if want := 1 + 6 + 15 + 20 + 15; count != want {
		t.Errorf("%d are in order, want %d", count, want)
	}
}

// checkUpTo: is one at most of a stamp up to floor?
func checkUpTo(t *testing.T, l []api.Version, floor int64) {
	t.Helper()
	n := 0
	for _, v := range l {
		if v.Stamp <= floor {
			n++
		}
	}
	if n > 1 {
		t.Errorf("%v: %d are up to %d", stampsOf(l), n, floor)
	}
}

// checkFrom: do both tell the same at each stamp from floor on?
func checkFrom(t *testing.T, floor int64, a, b []api.Version) {
	t.Helper()
	for _, stamp := range about() {
		if stamp >= floor && At(a, stamp) != At(b, stamp) {
			t.Errorf("at %d %v tell %v, and %v %v", stamp, stampsOf(a), At(a, stamp), stampsOf(b), At(b, stamp))
		}
	}
}

// P10.2: what is put, and what is folded, changes nothing that is told at stamps ahead of it, and is told from its own on.
func TestWhatIsPutComesBehind(t *testing.T) {
	eachInOrder([]int64{1, 2, 4, 5, 7, end}, 4, func(l []api.Version) {
		for cut := range l {
			both, e := Put(l[:cut], l[cut:]...)
			if e != api.OK {
				t.Errorf("%v behind %v: %d", stampsOf(l[cut:]), stampsOf(l[:cut]), e)
			}
			folded, f := Fold(l[:cut], l[cut].Stamp, 6)
			if f != api.OK {
				t.Errorf("a fold at %d behind %v: %d", l[cut].Stamp, stampsOf(l[:cut]), f)
			}
			for _, stamp := range about() {
				ahead := At(l[:cut], stamp)
				if stamp >= l[cut].Stamp {
					if At(both, stamp) != At(l[cut:], stamp) || At(folded, stamp) != cell.Fold(ahead, 6) {
						t.Errorf("%v, cut at %d: at %d %v and %v", stampsOf(l), cut, stamp, At(both, stamp), At(folded, stamp))
					}
				} else if At(both, stamp) != ahead || At(folded, stamp) != ahead {
					t.Errorf("%v, cut at %d: at %d %v and %v, want %v", stampsOf(l), cut, stamp, At(both, stamp), At(folded, stamp), ahead)
				}
			}
		}
	})
}

// P10.3: samples one by one, by hand.
func TestOneByOne(t *testing.T) {
	l := []api.Version{}
	for _, x := range []struct{ stamp, v int64 }{{1, 5}, {2, -3}, {7, 4}, {end - 1, top}, {end, -9}} {
		next, e := Fold(l, x.stamp, x.v)
		if e != api.OK {
			t.Fatalf("Fold(%v, %d, %d) tells %d", l, x.stamp, x.v, e)
		}
		l = next
	}
	if got := stampsOf(l); !slices.Equal(got, []int64{1, 2, 7, end - 1, end}) {
		t.Errorf("there are %v", got)
	}
	for stamp, want := range map[int64]api.Cell{
		0: {}, 1: made(1, sum(5), 5, 5), 2: made(2, sum(2), -3, 5), 6: made(2, sum(2), -3, 5), 7: made(3, sum(6), -3, 5), 8: made(3, sum(6), -3, 5),
		end - 2: made(3, sum(6), -3, 5), end - 1: made(4, over(top), -3, top), end: made(5, over(top), -9, top), top: made(5, over(top), -9, top),
	} {
		if got := At(l, stamp); got != want {
			t.Errorf("at %d: %v, want %v", stamp, got, want)
		}
	}
}

// P10.2, P10.3: all short lists of samples, folded one by one, at stamps that rise by 1 or by more, and pruned meanwhile, or not.
func TestOneByOneOfShort(t *testing.T) {
	lists.EachShort([]int64{0, 3, -2, top, low}, 5, func(samples []int64) {
		for gap := range int64(3) {
			checkOneByOne(t, samples, gap+1, func(int64) int64 { return low })
			checkOneByOne(t, samples, gap+1, func(stamp int64) int64 { return stamp })
			checkOneByOne(t, samples, gap+1, func(stamp int64) int64 { return stamp - 2 })
		}
	})
}

// checkOneByOne folds samples at every gap'th stamp, prunes at the floor of each, and holds each stamp from the last floor on against all samples up to it.
func checkOneByOne(t *testing.T, samples []int64, gap int64, floor func(stamp int64) int64) {
	t.Helper()
	var l []api.Version
	from := int64(low)
	for i, v := range samples {
		stamp := gap * int64(i+1)
		next, e := Fold(l, stamp, v)
		if e != api.OK || Last(next) != stamp || len(next) != len(l)+1 {
			t.Fatalf("Fold(%v, %d, %d) = %v, %d", l, stamp, v, next, e)
		}
		from = floor(stamp)
		l = Prune(next, from)
	}
	for stamp := max(from, -1); stamp <= gap*int64(len(samples)+1); stamp++ {
		n := min(max(stamp, 0)/gap, int64(len(samples)))
		if got, want := At(l, stamp), cell.Of(samples[:n]...); got != want {
			t.Errorf("%v, every %d, pruned at %d: at %d %v, want %v", samples, gap, from, stamp, got, want)
		}
	}
}

// P10.1, P10.3: many versions.
func TestMany(t *testing.T) {
	var l []api.Version
	var samples []int64
	for i := range int64(2000) {
		v := i*i%97 - 40
		next, e := Fold(l, 3*i+1, v)
		if e != api.OK {
			t.Fatalf("sample %d: %d", i, e)
		}
		l, samples = next, append(samples, v)
	}
	for i := range samples {
		stamp := int64(3*i + 1)
		want := cell.Of(samples[:i+1]...)
		if At(l, stamp) != want || At(l, stamp+1) != want || At(l, stamp+2) != want {
			t.Errorf("at %d: %v, want %v", stamp, At(l, stamp), want)
		}
		if got := Prune(l, stamp+1); !equal(got, l[i:]) {
			t.Errorf("pruned at %d: %d are left", stamp+1, len(got))
		}
	}
	if !Right(l) || Last(l) != 5998 || !Same(l, slices.Clone(l)) {
		t.Errorf("%d versions, the last one of %d", len(l), Last(l))
	}
	checkPut(t, l[:1000], l[1000:], l, api.OK)
	checkPut(t, l, l[1999:], nil, api.ErrOrder)
	checkFold(t, l, 5998, 1, nil, api.ErrOrder)
}

// P10.1: a call hangs on its arguments alone: who writes into an answer changes no later one.
func TestNothingIsKept(t *testing.T) {
	for range 3 {
		put, e := Put(versions(2, 5), version(9, cell.Of(9)))
		if e != api.OK || !equal(put, append(versions(2, 5), version(9, cell.Of(9)))) {
			t.Fatalf("put are %v, %d", put, e)
		}
		folded, e := Fold(put, 10, 1)
		if e != api.OK || !equal(folded[:3], put) || folded[3] != version(10, cell.Of(9, 1)) {
			t.Fatalf("folded are %v, %d", folded, e)
		}
		pruned := Prune(folded, 6)
		if !equal(pruned, folded[1:]) {
			t.Fatalf("pruned are %v", pruned)
		}
		clear(pruned[:cap(pruned)])
		if !equal(folded[:3], put) {
			t.Fatalf("folded became %v", folded)
		}
		clear(folded[:cap(folded)])
		if Last(put) != 9 || At(put, 5) != cell.Of(5, 1) {
			t.Fatalf("put became %v", put)
		}
		clear(put[:cap(put)])
	}
}
