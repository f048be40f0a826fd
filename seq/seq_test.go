package seq

import (
	"encoding/binary"
	"math"
	"math/big"
	"slices"
	"testing"

	"ebbtide/api"
	"ebbtide/lists"
)

const (
	top = math.MaxInt64
	low = math.MinInt64
	end = api.MaxStamp
)

// write is a sample that was accepted.
func write(stamp, window int64, key string, value int64) api.Write {
	return api.Write{Stamp: stamp, Window: window, Key: key, Value: value}
}

// of is a queue of some stamps; the other parts of its writes tell their stamps and places, too.
func of(stamps ...int64) []api.Write {
	l := []api.Write{}
	for place, stamp := range stamps {
		l = append(l, write(stamp, stamp%3, "cpu{a="+string(rune('a'+place%26))+"}", stamp^5))
	}
	return l
}

// in is a queue of writes of some windows.
func in(windows ...int64) []api.Write {
	l := []api.Write{}
	for place, window := range windows {
		l = append(l, write(int64(place)+40, window, "cpu", 41))
	}
	return l
}

// queues are some, one behind the other.
func queues(l ...[]api.Write) [][]api.Write { return l }

// equal: the same writes, one by one, by other means than Same?
func equal(a, b []api.Write) bool {
	if len(a) != len(b) {
		return false
	}
	for i := range a {
		if a[i].Stamp != b[i].Stamp || a[i].Window != b[i].Window || a[i].Key != b[i].Key || a[i].Value != b[i].Value {
			return false
		}
	}
	return true
}

// watched is queues that are handed in, with spare room behind each and behind all of them that is not empty, and what they were.
type watched struct {
	queues [][]api.Write
	whole  [][]api.Write
	was    [][]api.Write
	sizes  []int
}

// watch makes some that are like l.
func watch(l ...[]api.Write) watched {
	w := watched{}
	for _, q := range slices.Concat(l, queues(of(1), of(), of(3, 2))) {
		n := len(q)
		w.whole = append(w.whole, slices.Concat(q, of(77, 1, 0))[:n])
		w.was = append(w.was, slices.Concat(q, of(77, 1, 0)))
		w.sizes = append(w.sizes, n)
	}
	w.queues = w.whole[:len(l)]
	return w
}

// check: are all of them as they were?
func (w watched) check(t *testing.T) {
	t.Helper()
	for i, q := range w.whole {
		if len(q) != w.sizes[i] || !equal(q[:len(w.was[i])], w.was[i]) {
			t.Errorf("queue %d became %v of %v, and was %v of %v", i, len(q), q[:len(w.was[i])], w.sizes[i], w.was[i])
		}
	}
}

// spoil writes into all of an answer, its spare room, too.
func spoil(q []api.Write) {
	all := q[:cap(q)]
	for i := range all {
		all[i] = write(-88, -8, "spoilt", -8)
	}
}

// wantRight is what Right must answer: each stamp may be, and each two rise.
func wantRight(q []api.Write) bool {
	for i, w := range q {
		if w.Stamp < 1 || w.Stamp > 1000000000000000 {
			return false
		}
		for _, behind := range q[i+1:] {
			if behind.Stamp <= w.Stamp {
				return false
			}
		}
	}
	return true
}

// wantPush is what Push must answer.
func wantPush(q, w []api.Write) ([]api.Write, api.Errno) {
	both := []api.Write{}
	for _, l := range queues(q, w) {
		for _, one := range l {
			both = append(both, one)
		}
	}
	if !wantRight(both) {
		return nil, 9
	}
	return both, 0
}

// wantStable is what Stable must answer, in numbers that have no end.
func wantStable(last int64, l [][]api.Write) *big.Int {
	var firsts []int64
	for _, q := range l {
		if len(q) > 0 {
			firsts = append(firsts, q[0].Stamp)
		}
	}
	if len(firsts) == 0 {
		return big.NewInt(last)
	}
	return new(big.Int).Sub(big.NewInt(slices.Min(firsts)), big.NewInt(1))
}

// checkRight holds Right against what is wanted.
func checkRight(t *testing.T, q []api.Write, want bool) {
	t.Helper()
	w := watch(q)
	if got := Right(w.queues[0]); got != want {
		t.Errorf("Right(%v) = %v", q, got)
	}
	if wantRight(q) != want {
		t.Errorf("by other means %v is told %v", q, !want)
	}
	w.check(t)
}

// checkPush holds Push against what is wanted, and what was handed in against what it was, also when the answer is written into.
func checkPush(t *testing.T, q, w []api.Write, want []api.Write, wantE api.Errno) {
	t.Helper()
	both := watch(q, w)
	got, e := Push(both.queues[0], both.queues[1]...)
	if e != wantE || !equal(got, want) {
		t.Errorf("Push(%v, %v) = %v, %v, want %v, %v", q, w, got, e, want, wantE)
	}
	spoil(got)
	both.check(t)
}

// checkPop holds Pop against what is wanted, and what was handed in against what it was, also when the answer is written into.
func checkPop(t *testing.T, q []api.Write) {
	t.Helper()
	w := watch(q)
	first, others, ok := Pop(w.queues[0])
	if len(q) == 0 {
		if ok || first != (api.Write{}) || len(others) != 0 {
			t.Errorf("Pop(%v) = %v, %v, %v", q, first, others, ok)
		}
	} else if !ok || first != q[0] || !equal(others, q[1:]) {
		t.Errorf("Pop(%v) = %v, %v, %v", q, first, others, ok)
	}
	spoil(others)
	w.check(t)
}

// checkStable holds Stable against what is wanted.
func checkStable(t *testing.T, last int64, l [][]api.Write, want int64) {
	t.Helper()
	w := watch(l...)
	if got := Stable(last, w.queues...); got != want {
		t.Errorf("Stable(%d, %v) = %d, want %d", last, l, got, want)
	}
	if by := wantStable(last, l); by.Cmp(big.NewInt(want)) != 0 {
		t.Errorf("by other means the stable stamp of %d and %v is %v, not %d", last, l, by, want)
	}
	w.check(t)
}

// checkWaits holds Waits against what is wanted.
func checkWaits(t *testing.T, window int64, l [][]api.Write, want bool) {
	t.Helper()
	w := watch(l...)
	if got := Waits(window, w.queues...); got != want {
		t.Errorf("Waits(%d, %v) = %v", window, l, got)
	}
	w.check(t)
}

// checkPending holds Pending against what is wanted.
func checkPending(t *testing.T, l [][]api.Write, want int) {
	t.Helper()
	w := watch(l...)
	if got := Pending(w.queues...); got != want {
		t.Errorf("Pending(%v) = %d, want %d", l, got, want)
	}
	w.check(t)
}

// checkSame holds Same against what is wanted, both ways round.
func checkSame(t *testing.T, a, b []api.Write, want bool) {
	t.Helper()
	w := watch(a, b)
	if Same(w.queues[0], w.queues[1]) != want || Same(w.queues[1], w.queues[0]) != want {
		t.Errorf("Same(%v, %v) is not %v", a, b, want)
	}
	w.check(t)
}

// P14.1: Right, by hand.
func TestRight(t *testing.T) {
	for _, x := range []struct {
		stamps []int64
		want   bool
	}{
		{nil, true}, {[]int64{}, true},
		// one: from 1 to MaxStamp
		{[]int64{1}, true}, {[]int64{2}, true}, {[]int64{end - 1}, true}, {[]int64{end}, true},
		{[]int64{0}, false}, {[]int64{-1}, false}, {[]int64{-2}, false}, {[]int64{end + 1}, false}, {[]int64{-end}, false}, {[]int64{top}, false}, {[]int64{low}, false},
		// rising, by whatever
		{[]int64{1, 2}, true}, {[]int64{1, 2, 3, 4}, true}, {[]int64{1, end}, true}, {[]int64{5, 9, 1000, end - 1, end}, true}, {[]int64{2, 3, end}, true},
		// two that are one, at the head, in the midst, at the end
		{[]int64{1, 1}, false}, {[]int64{1, 1, 2, 3}, false}, {[]int64{1, 2, 2, 3}, false}, {[]int64{1, 2, 3, 3}, false}, {[]int64{end, end}, false},
		// falling there
		{[]int64{2, 1}, false}, {[]int64{2, 1, 3, 4}, false}, {[]int64{1, 3, 2, 4}, false}, {[]int64{1, 2, 4, 3}, false}, {[]int64{3, 4, 1, 2}, false}, {[]int64{end, 1}, false},
		// rising, but not from 1 to MaxStamp
		{[]int64{0, 1}, false}, {[]int64{-1, 1, 2}, false}, {[]int64{low, 1}, false}, {[]int64{end, end + 1}, false}, {[]int64{1, 2, top}, false}, {[]int64{-2, -1}, false},
		{[]int64{1, 0}, false}, {[]int64{1, -1, 2}, false}, {[]int64{1, low, 2}, false}, {[]int64{end + 1, end + 2}, false}, {[]int64{1, top, 2}, false}, {[]int64{top, low}, false},
	} {
		checkRight(t, of(x.stamps...), x.want)
	}
}

// P14.1: only stamps count for the order; windows, keys and values may be anything.
func TestOnlyStampsCount(t *testing.T) {
	odd := []api.Write{write(1, low, "\xff{", top), write(2, top, "", low), write(3, -1, "\xff{", 0), write(4, -1, "\x00", 0)}
	checkRight(t, odd, true)
	checkPush(t, odd[:2], odd[2:], odd, api.OK)
	checkPush(t, odd[2:], odd[:2], nil, api.ErrOrder)
	for range odd {
		checkPop(t, odd)
		odd = odd[1:]
	}
	checkPop(t, odd)
}

// P14.1: Push, by hand.
func TestPush(t *testing.T) {
	for _, x := range []struct {
		q, w []int64
		e    api.Errno
	}{
		// nothing pushed: onto a queue in order, onto one that isn't
		{nil, nil, api.OK}, {[]int64{1}, nil, api.OK}, {[]int64{3, 7, end}, nil, api.OK},
		{[]int64{0}, nil, api.ErrOrder}, {[]int64{2, 2}, nil, api.ErrOrder}, {[]int64{2, 1}, nil, api.ErrOrder}, {[]int64{end + 1}, nil, api.ErrOrder}, {[]int64{-1, 4}, nil, api.ErrOrder},
		// onto nothing
		{nil, []int64{1}, api.OK}, {nil, []int64{end}, api.OK}, {nil, []int64{4, 5, 9}, api.OK},
		{nil, []int64{0}, api.ErrOrder}, {nil, []int64{-1}, api.ErrOrder}, {nil, []int64{end + 1}, api.ErrOrder}, {nil, []int64{low}, api.ErrOrder}, {nil, []int64{top}, api.ErrOrder},
		{nil, []int64{4, 4}, api.ErrOrder}, {nil, []int64{5, 4}, api.ErrOrder},
		// behind some
		{[]int64{1}, []int64{2}, api.OK}, {[]int64{2, 5}, []int64{6, 9}, api.OK}, {[]int64{end - 1}, []int64{end}, api.OK}, {[]int64{1}, []int64{2, 3, 4, 5, 6}, api.OK}, {[]int64{1, 2, 3, 4, 5}, []int64{6}, api.OK},
		// where one meets the other
		{[]int64{5}, []int64{5}, api.ErrOrder}, {[]int64{5}, []int64{4}, api.ErrOrder}, {[]int64{2, 5}, []int64{5, 6}, api.ErrOrder}, {[]int64{2, 5}, []int64{3}, api.ErrOrder}, {[]int64{2, 5}, []int64{1}, api.ErrOrder},
		{[]int64{end}, []int64{end}, api.ErrOrder}, {[]int64{end}, []int64{1}, api.ErrOrder}, {[]int64{1}, []int64{0}, api.ErrOrder}, {[]int64{1}, []int64{-1}, api.ErrOrder}, {[]int64{end}, []int64{end + 1}, api.ErrOrder},
		// within the queue, what is pushed being right
		{[]int64{5, 5}, []int64{6}, api.ErrOrder}, {[]int64{5, 4}, []int64{6}, api.ErrOrder}, {[]int64{0, 4}, []int64{6}, api.ErrOrder}, {[]int64{4, 0}, []int64{6}, api.ErrOrder}, {[]int64{end + 1}, []int64{end + 2}, api.ErrOrder}, {[]int64{end + 1}, []int64{1}, api.ErrOrder},
		// within what is pushed, the queue being right
		{[]int64{2, 5}, []int64{6, 6}, api.ErrOrder}, {[]int64{2, 5}, []int64{7, 6}, api.ErrOrder}, {[]int64{2, 5}, []int64{6, 7, 7}, api.ErrOrder}, {[]int64{2, 5}, []int64{6, 9, 8, 10}, api.ErrOrder}, {[]int64{2, 5}, []int64{6, 5}, api.ErrOrder}, {[]int64{2}, []int64{3, end + 1}, api.ErrOrder},
	} {
		q, w := of(x.q...), of(x.w...)
		want, e := wantPush(q, w)
		if e != x.e {
			t.Errorf("by other means Push(%v, %v) tells %v, not %v", x.q, x.w, e, x.e)
		}
		checkPush(t, q, w, want, x.e)
	}
}

// P14.1: Pop, by hand: of none, of one, of more, in order or not.
func TestPop(t *testing.T) {
	checkPop(t, nil)
	for _, stamps := range [][]int64{
		{}, {1}, {end}, {2, 5}, {2, 5, 9}, {1, 2, 3, 4, 5, 6, 7}, {0}, {-1, 4}, {0, 0}, {4, 4, 4}, {5, 4}, {end + 1, 1}, {low, top}, {top, low, 0},
	} {
		checkPop(t, of(stamps...))
	}
	// one that is there, though it is all zero values
	checkPop(t, []api.Write{{}})
	checkPop(t, []api.Write{{}, {}})
}

// P14.1: Stable, by hand; the first is the chapter's example.
func TestStable(t *testing.T) {
	for _, x := range []struct {
		last   int64
		queues [][]api.Write
		want   int64
	}{
		{9, queues(of(4, 8), of(7)), 3},
		// no queues, and empty ones alone
		{9, nil, 9}, {9, queues(nil), 9}, {9, queues(of(), nil, of(), nil), 9}, {0, nil, 0}, {0, queues(of()), 0}, {end, queues(of(), of()), end}, {end, nil, end},
		{-1, nil, -1}, {end + 1, queues(nil, nil), end + 1}, {top, nil, top}, {low, queues(of()), low}, {low, nil, low},
		// some that are empty
		{9, queues(nil, of(7)), 6}, {9, queues(of(7), nil), 6}, {9, queues(nil, nil, of(7), nil), 6}, {9, queues(of(4), nil, of(7)), 3}, {9, queues(of(7), nil, of(4)), 3},
		// the least in the first, in the midst, in the last
		{9, queues(of(2), of(5), of(7), of(8)), 1}, {9, queues(of(5), of(2), of(7), of(8)), 1}, {9, queues(of(8), of(7), of(5), of(2)), 1}, {9, queues(of(7), of(4)), 3},
		// of 1, of MaxStamp
		{9, queues(of(1)), 0}, {9, queues(of(3), of(1, 2)), 0}, {end, queues(of(end)), end - 1}, {end, queues(of(end), of(end-1)), end - 2}, {2, queues(of(end), of(end)), end - 1},
		// the last stamp below, at, and above the queues' stamps
		{0, queues(of(4), of(7)), 3}, {2, queues(of(4), of(7)), 3}, {3, queues(of(4), of(7)), 3}, {4, queues(of(4), of(7)), 3}, {7, queues(of(4), of(7)), 3}, {8, queues(of(4), of(7)), 3},
		{-5, queues(of(4)), 3}, {low, queues(of(4)), 3}, {top, queues(of(4)), 3}, {end, queues(of(4)), 3}, {low, queues(of(1)), 0}, {top, queues(of(end)), end - 1}, {1, queues(of(2)), 1}, {2, queues(of(2)), 1},
		// only the first one of each counts
		{9, queues(of(6, 2, 1), of(8, 3)), 5}, {9, queues(of(6, 0, -4)), 5}, {9, queues(of(4, 4)), 3},
		// two alike
		{9, queues(of(6), of(6)), 5},
		// above MaxStamp
		{9, queues(of(top)), top - 1}, {9, queues(of(end+1), of(top)), end},
	} {
		checkStable(t, x.last, x.queues, x.want)
	}
}

// P14.1: Waits, by hand.
func TestWaits(t *testing.T) {
	for _, x := range []struct {
		window int64
		queues [][]api.Write
		want   bool
	}{
		{0, nil, false}, {5, nil, false}, {0, queues(nil), false}, {0, queues(of(), nil, of()), false}, {-1, queues(nil), false},
		// the first write, one in the midst, the last one
		{5, queues(in(5)), true}, {5, queues(in(5, 6, 7)), true}, {6, queues(in(5, 6, 7)), true}, {7, queues(in(5, 6, 7)), true},
		// none: just below, between, just above
		{4, queues(in(5, 6, 7)), false}, {8, queues(in(5, 6, 7)), false}, {6, queues(in(5, 7)), false}, {-5, queues(in(5, 7)), false}, {0, queues(in(5, 7)), false},
		// neither a stamp nor a value nor a key is a window
		{40, queues(in(5, 7)), false}, {41, queues(in(5, 7)), false}, {5, queues([]api.Write{write(5, 6, "5", 5)}), false},
		// only a later queue's
		{9, queues(in(5), in(9)), true}, {9, queues(nil, in(5, 6), in(7, 9)), true}, {9, queues(in(5), nil, in(9, 5)), true}, {9, queues(in(5), in(6), in(7), in(8, 8, 9)), true}, {9, queues(in(9), in(5), nil), true},
		{9, queues(in(5), in(6), in(7), in(8, 8, 10)), false},
		// whatever window
		{0, queues(in(1, 0)), true}, {-1, queues(in(-1)), true}, {top, queues(in(1, top)), true}, {low, queues(in(low)), true}, {top, queues(in(low)), false}, {low, queues(in(top)), false}, {0, queues(in(1 << 32)), false}, {api.MaxTime, queues(in(api.MaxTime)), true}, {api.MaxTime, queues(in(api.MaxTime - 1)), false},
	} {
		checkWaits(t, x.window, x.queues, x.want)
	}
}

// P14.1: Pending, by hand.
func TestPending(t *testing.T) {
	for _, x := range []struct {
		queues [][]api.Write
		want   int
	}{
		{nil, 0}, {queues(nil), 0}, {queues(of(), nil, of(), nil), 0},
		{queues(of(4)), 1}, {queues(of(4, 8), of(7)), 3}, {queues(nil, of(7), nil), 1}, {queues(of(1, 2, 3), nil, of(4, 5), of(6)), 6}, {queues(of(6), of(6)), 2},
		// in order or not
		{queues(of(4, 4, 1, 0), of(-1)), 5}, {queues([]api.Write{{}}), 1},
	} {
		checkPending(t, x.queues, x.want)
	}
}

// P14.1: Same of two that differ in one field of one write alone, or in how many they are.
func TestSame(t *testing.T) {
	checkSame(t, nil, nil, true)
	checkSame(t, nil, of(), true)
	checkSame(t, of(), []api.Write{{}}, false)
	checkSame(t, nil, of(1), false)
	checkSame(t, of(3, 5), of(5, 3), false)
	checkSame(t, of(5, 4, 4, 0, low), of(5, 4, 4, 0, low), true)
	q := of(2, 5, 9)
	for i, one := range q {
		for _, other := range []api.Write{
			write(one.Stamp+1, one.Window, one.Key, one.Value), write(-one.Stamp, one.Window, one.Key, one.Value), write(one.Stamp+1<<32, one.Window, one.Key, one.Value),
			write(one.Stamp, one.Window+1, one.Key, one.Value), write(one.Stamp, one.Window-1<<32, one.Key, one.Value),
			write(one.Stamp, one.Window, one.Key+" ", one.Value), write(one.Stamp, one.Window, one.Key[1:], one.Value), write(one.Stamp, one.Window, "Cpu{a=a}", one.Value), write(one.Stamp, one.Window, "", one.Value),
			write(one.Stamp, one.Window, one.Key, one.Value+1), write(one.Stamp, one.Window, one.Key, ^one.Value), {},
		} {
			changed := slices.Clone(q)
			changed[i] = other
			checkSame(t, q, changed, false)
			checkSame(t, changed, slices.Clone(changed), true)
		}
		checkSame(t, q, slices.Delete(slices.Clone(q), i, i+1), false)
		checkSame(t, q, slices.Insert(slices.Clone(q), i, one), false)
		checkSame(t, q, q[:i], false)
		checkSame(t, q, q[i+1:], false)
	}
	checkSame(t, q, slices.Concat(q, []api.Write{{}}), false)
	checkSame(t, q, slices.Clone(q), true)
	checkSame(t, q, q, true)
}

// P14.1: all short queues and pushes of stamps at the edges.
func TestAllShort(t *testing.T) {
	edges := []int64{-1, 0, 1, 2, 3, end, end + 1}
	lists.EachShort(edges, 4, func(stamps []int64) {
		q := of(stamps...)
		checkRight(t, q, wantRight(q))
		checkPop(t, q)
		for cut := range len(q) + 1 {
			want, e := wantPush(q[:cut], q[cut:])
			checkPush(t, q[:cut], q[cut:], want, e)
		}
	})
}

// P14.1: Stable, Pending and Waits of all short lists of some queues.
func TestAllQueues(t *testing.T) {
	some := queues(nil, of(1), of(4, 1), of(5, 6, 7), of(end), of(6, 8))
	lists.EachShort(some, 4, func(l [][]api.Write) {
		all := slices.Concat(l...)
		checkPending(t, l, len(all))
		for _, last := range []int64{low, -1, 0, 3, 4, 5, end, top} {
			checkStable(t, last, l, wantStable(last, l).Int64())
		}
		for window := int64(-1); window < 4; window++ {
			want := false
			for _, w := range all {
				want = want || w.Window == window
			}
			checkWaits(t, window, l, want)
		}
	})
}

// P14.1: a call hangs on its arguments alone: who writes into an answer, or asks something else in between, changes no later one.
func TestNothingIsKept(t *testing.T) {
	q, w := of(2, 5), of(6, 9)
	for range 3 {
		checkPush(t, q, w, slices.Concat(q, w), api.OK)
		checkPush(t, nil, w, w, api.OK)
		checkPush(t, w, q, nil, api.ErrOrder)
		checkPush(t, q, nil, q, api.OK)
		checkPop(t, q)
		checkPop(t, nil)
		checkStable(t, 9, queues(w, q), 1)
		checkStable(t, 9, nil, 9)
		checkPending(t, queues(w, q), 4)
		checkPending(t, nil, 0)
	}
	one, _ := Push(q, w...)
	two, _ := Push(q, w...)
	_, left, _ := Pop(q)
	_, again, _ := Pop(q)
	spoil(one)
	spoil(left)
	if !equal(two, slices.Concat(q, w)) || !equal(again, of(2, 5)[1:]) || !equal(q, of(2, 5)) || !equal(w, of(6, 9)) {
		t.Errorf("two became %v, again %v, q %v, w %v", two, again, q, w)
	}
}

// P14.1: what is handed in afterwards is not what was answered before: an answer stays when the arguments are written into.
func TestAnswersStay(t *testing.T) {
	q, w := of(2, 5, 7), of(8, 9)
	both, _ := Push(q, w...)
	alone, _ := Push(q)
	onto, _ := Push(nil, w...)
	_, others, _ := Pop(q)
	spoil(q)
	spoil(w)
	if !equal(both, slices.Concat(of(2, 5, 7), of(8, 9))) || !equal(alone, of(2, 5, 7)) || !equal(onto, of(8, 9)) || !equal(others, of(2, 5, 7)[1:]) {
		t.Errorf("answers became %v, %v, %v, %v", both, alone, onto, others)
	}
}

// P14.2: what is pushed, one by one, some at a time, or all at once, is popped in that order, each behind whatever pops.
func TestPoppedInThatOrder(t *testing.T) {
	all := of(1, 2, 4, 8, 9, 10, 11, 40, 41, 1000, end-1, end)
	for batch := 1; batch <= len(all); batch++ {
		for pops := range 4 {
			var q, got []api.Write
			for more := range slices.Chunk(all, batch) {
				var e api.Errno
				if q, e = Push(q, more...); e != api.OK {
					t.Fatalf("Push of %v: %v", more, e)
				}
				q, got = popped(q, got, pops)
			}
			q, got = popped(q, got, len(all))
			if !equal(got, all) || len(q) != 0 {
				t.Errorf("%d at a time, %d pops between: %v, and %v is left", batch, pops, got, q)
			}
		}
	}
}

// popped is what is left of q behind at most n pops, and got with what they told.
func popped(q, got []api.Write, n int) ([]api.Write, []api.Write) {
	for range n {
		w, others, ok := Pop(q)
		if ok {
			got = append(got, w)
		}
		q = others
	}
	return q, got
}

// checkRises pops the least stamp of some queues, one by one, and holds the stable stamp against what it was, against what was popped, and against the last stamp.
func checkRises(t *testing.T, last int64, l [][]api.Write) {
	t.Helper()
	was := Stable(last, l...)
	for range Pending(l...) {
		least := -1
		for i, q := range l {
			if len(q) > 0 && (least < 0 || q[0].Stamp < l[least][0].Stamp) {
				least = i
			}
		}
		w, others, ok := Pop(l[least])
		if !ok || w.Stamp != was+1 {
			t.Fatalf("of %v %v was popped at the stable stamp %d", l, w, was)
		}
		l = slices.Clone(l)
		l[least] = others
		now := Stable(last, l...)
		if now < was || now < w.Stamp || now > last {
			t.Fatalf("with %v popped the stable stamp became %d, and was %d, in %v", w, now, was, l)
		}
		was = now
	}
	if was != last || Pending(l...) != 0 {
		t.Errorf("with all popped the stable stamp is %d, not %d, in %v", was, last, l)
	}
}

// P14.2: with each pop of the least stamp the stable stamp rises, for each way in which stamps stand in queues, with gaps and without.
func TestStableRises(t *testing.T) {
	for _, stamps := range [][]int64{{1, 2, 3, 4, 5}, {1, 5, 6, 40, end}, {7, 9, 11, 12, 13}, {end - 4, end - 3, end - 2, end - 1, end}} {
		lists.EachShort([]int{0, 1, 2, 3}, len(stamps), func(places []int) {
			l := make([][]api.Write, 4)
			for i, place := range places {
				q, e := Push(l[place], of(stamps[i])...)
				if e != api.OK {
					t.Fatal(e)
				}
				l[place] = q
			}
			last := int64(0)
			if len(places) > 0 {
				last = stamps[len(places)-1]
			}
			checkRises(t, last, l)
			checkRises(t, last+3, l)
		})
	}
}

// P14.2: two queues whose first stamps are one: the stable stamp stays with the first pop, and rises with the second.
func TestStableStays(t *testing.T) {
	l := queues(of(4, 8), of(4))
	_, others, _ := Pop(l[0])
	checkStable(t, 9, l, 3)
	checkStable(t, 9, queues(others, l[1]), 3)
	checkStable(t, 9, queues(others, nil), 7)
}

// P14.2: on and on: stamps are given, put into queues, and popped, for a long time.
func TestOnAndOn(t *testing.T) {
	l := make([][]api.Write, 3)
	var last, popped, stable int64
	state := uint32(7)
	for range 4000 {
		state = state*1664525 + 1013904223
		if state>>24 < 130 {
			last++
			place := int(state>>16&0xff) % 3
			q, e := Push(l[place], write(last, last/10, "cpu", -last))
			if e != api.OK {
				t.Fatal(e)
			}
			l[place] = q
		} else if Pending(l...) > 0 {
			least := slices.IndexFunc(l, func(q []api.Write) bool { return len(q) > 0 && q[0].Stamp == stable+1 })
			if least < 0 {
				t.Fatalf("none begins behind the stable stamp %d in %v", stable, l)
			}
			w, others, ok := Pop(l[least])
			popped++
			if !ok || w != write(popped, popped/10, "cpu", -popped) {
				t.Fatalf("%v was popped for %d", w, popped)
			}
			l[least] = others
		}
		now := Stable(last, l...)
		if now < stable || now != popped || Pending(l...) != int(last-popped) || Waits(last/10, l...) != (popped < last) || Waits(last/10+1, l...) {
			t.Fatalf("the stable stamp %d became %d, of %d given and %d popped", stable, now, last, popped)
		}
		stable = now
	}
	if last < 100 || popped < 100 {
		t.Errorf("%d given, %d popped", last, popped)
	}
}

// fuzzed is queues out of bytes: 0 ends one, others begin a write.
func fuzzed(b []byte) [][]api.Write {
	l := queues(nil)
	for len(b) > 0 {
		head := b[0]
		b = b[1:]
		if head == 0 {
			l = append(l, nil)
			continue
		}
		stamp := int64(int8(head))
		if head == 127 && len(b) >= 8 {
			stamp = int64(binary.LittleEndian.Uint64(b))
			b = b[8:]
		}
		l[len(l)-1] = append(l[len(l)-1], write(stamp, stamp%4, string([]byte{head}), -stamp))
	}
	return l
}

// P14.1, P14.2: the same for whatever a fuzzer finds.
func FuzzQueues(f *testing.F) {
	for _, b := range [][]byte{nil, {0}, {1, 2, 0, 3}, {4, 8, 0, 7}, {0, 0, 5, 5, 0, 1}, {127, 0, 128, 198, 164, 126, 141, 3, 0, 9}, {255, 1}} {
		f.Add(int64(9), b)
	}
	f.Fuzz(func(t *testing.T, last int64, b []byte) {
		l := fuzzed(b)
		right := true
		for i, q := range l {
			checkRight(t, q, wantRight(q))
			checkPop(t, q)
			behind := l[(i+1)%len(l)]
			want, e := wantPush(q, behind)
			checkPush(t, q, behind, want, e)
			checkSame(t, q, behind, equal(q, behind))
			right = right && wantRight(q)
		}
		if right {
			checkStable(t, last, l, wantStable(last, l).Int64())
		}
		checkPending(t, l, len(slices.Concat(l...)))
	})
}
