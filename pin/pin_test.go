package pin

import (
	"encoding/binary"
	"math"
	"slices"
	"sort"
	"testing"

	"ebbtide/api"
	"ebbtide/lists"
)

const (
	top    = math.MaxInt64
	low    = math.MinInt64
	topId  = math.MaxInt
	lowId  = math.MinInt
	before = -1 // a stamp that may not be
)

// at is a pin.
func at(id int, stamp int64) api.Pin { return api.Pin{Id: id, Stamp: stamp} }

// of is pins of some Ids; their stamps hang on Ids and places, and none is below 0.
func of(ids ...int) []api.Pin {
	l := []api.Pin{}
	for place, id := range ids {
		l = append(l, at(id, int64(id&7)*10+int64(place)))
	}
	return l
}

// stamped is pins of some stamps, with Ids that rise from 1 on.
func stamped(stamps ...int64) []api.Pin {
	l := []api.Pin{}
	for place, stamp := range stamps {
		l = append(l, at(place+1, stamp))
	}
	return l
}

// equal: the same pins, one by one, by other means than Same?
func equal(a, b []api.Pin) bool {
	if len(a) != len(b) {
		return false
	}
	for i := range a {
		if a[i].Id != b[i].Id || a[i].Stamp != b[i].Stamp {
			return false
		}
	}
	return true
}

// watched is pins that are handed in, with spare room behind their end that is not empty, and what they were.
type watched struct {
	l    []api.Pin
	was  []api.Pin
	size int
}

// watch makes some that are like l.
func watch(l []api.Pin) watched {
	room := []api.Pin{at(70, 71), at(2, 0), at(-1, 5)}
	return watched{slices.Concat(l, room)[:len(l)], slices.Concat(l, room), len(l)}
}

// check: are they as they were, also behind their end?
func (w watched) check(t *testing.T) {
	t.Helper()
	if len(w.l) != w.size || !equal(w.l[:len(w.was)], w.was) {
		t.Errorf("%d pins became %v, and were %v", w.size, w.l[:len(w.was)], w.was)
	}
}

// spoil writes into all of an answer, its spare room, too.
func spoil(l []api.Pin) {
	all := l[:cap(l)]
	for i := range all {
		all[i] = at(-88, -8)
	}
}

// wantRight is what Right must answer: no stamp is below 0, and of each two Ids the one behind is greater.
func wantRight(l []api.Pin) bool {
	for i, p := range l {
		if p.Stamp < 0 {
			return false
		}
		for _, behind := range l[i+1:] {
			if behind.Id <= p.Id {
				return false
			}
		}
	}
	return true
}

// wantAdd is what Add must answer: which Ids are there is told by a map, and all are sorted behind.
func wantAdd(l, p []api.Pin) ([]api.Pin, api.Errno) {
	if !wantRight(l) {
		return nil, 9
	}
	there := map[int]int64{}
	for _, one := range l {
		there[one.Id] = one.Stamp
	}
	for _, one := range p {
		if one.Stamp < 0 {
			return nil, 1
		}
		if _, ok := there[one.Id]; ok {
			return nil, 5
		}
		there[one.Id] = one.Stamp
	}
	all := []api.Pin{}
	for id, stamp := range there {
		all = append(all, at(id, stamp))
	}
	sort.Slice(all, func(i, j int) bool { return all[i].Id < all[j].Id })
	return all, 0
}

// wantDrop is what Drop must answer: the others one by one, the first of that Id left out.
func wantDrop(l []api.Pin, id int) ([]api.Pin, api.Errno) {
	left, found := []api.Pin{}, false
	for _, p := range l {
		if p.Id == id && !found {
			found = true
			continue
		}
		left = append(left, p)
	}
	if !found {
		return nil, 6
	}
	return left, 0
}

// wantFind is what Find must answer: from behind, the last one that is found is the first one there.
func wantFind(l []api.Pin, id int) (int64, bool) {
	stamp, found := int64(0), false
	for i := len(l) - 1; i >= 0; i-- {
		if l[i].Id == id {
			stamp, found = l[i].Stamp, true
		}
	}
	return stamp, found
}

// wantFloor is what Floor must answer: the first of all stamps, sorted.
func wantFloor(stable int64, l []api.Pin) int64 {
	all := []int64{stable}
	for _, p := range l {
		all = append(all, p.Stamp)
	}
	slices.Sort(all)
	return all[0]
}

// checkRight holds Right against what is wanted.
func checkRight(t *testing.T, l []api.Pin, want bool) {
	t.Helper()
	w := watch(l)
	if got := Right(w.l); got != want {
		t.Errorf("Right(%v) = %v", l, got)
	}
	if wantRight(l) != want {
		t.Errorf("by other means %v is told %v", l, !want)
	}
	w.check(t)
}

// checkAdd holds Add against what is wanted, and what was handed in against what it was, also when the answer is written into.
func checkAdd(t *testing.T, l, p, want []api.Pin, wantE api.Errno) {
	t.Helper()
	there, more := watch(l), watch(p)
	got, e := Add(there.l, more.l...)
	if e != wantE || !equal(got, want) {
		t.Errorf("Add(%v, %v) = %v, %v, want %v, %v", l, p, got, e, want, wantE)
	}
	if e == api.OK && !wantRight(got) {
		t.Errorf("Add(%v, %v) = %v, which isn't in order", l, p, got)
	}
	if by, byE := wantAdd(l, p); byE != wantE || !equal(by, want) {
		t.Errorf("by other means adding %v to %v is %v, %v", p, l, by, byE)
	}
	there.check(t)
	more.check(t)
	spoil(got)
	there.check(t)
	more.check(t)
}

// checkDrop holds Drop against what is wanted, and what was handed in against what it was, also when the answer is written into.
func checkDrop(t *testing.T, l []api.Pin, id int, want []api.Pin, wantE api.Errno) {
	t.Helper()
	w := watch(l)
	got, e := Drop(w.l, id)
	if e != wantE || !equal(got, want) {
		t.Errorf("Drop(%v, %d) = %v, %v, want %v, %v", l, id, got, e, want, wantE)
	}
	if by, byE := wantDrop(l, id); byE != wantE || !equal(by, want) {
		t.Errorf("by other means dropping %d of %v is %v, %v", id, l, by, byE)
	}
	w.check(t)
	spoil(got)
	w.check(t)
}

// checkFind holds Find against what is wanted.
func checkFind(t *testing.T, l []api.Pin, id int, want int64, wantOk bool) {
	t.Helper()
	w := watch(l)
	if got, ok := Find(w.l, id); got != want || ok != wantOk {
		t.Errorf("Find(%v, %d) = %d, %v, want %d, %v", l, id, got, ok, want, wantOk)
	}
	if by, ok := wantFind(l, id); by != want || ok != wantOk {
		t.Errorf("by other means %d is found in %v as %d, %v", id, l, by, ok)
	}
	w.check(t)
}

// checkFloor holds Floor against what is wanted.
func checkFloor(t *testing.T, stable int64, l []api.Pin, want int64) {
	t.Helper()
	w := watch(l)
	if got := Floor(stable, w.l...); got != want {
		t.Errorf("Floor(%d, %v) = %d, want %d", stable, l, got, want)
	}
	if by := wantFloor(stable, l); by != want {
		t.Errorf("by other means the floor of %d and %v is %d", stable, l, by)
	}
	w.check(t)
}

// checkSame holds Same against what is wanted, both ways round.
func checkSame(t *testing.T, a, b []api.Pin, want bool) {
	t.Helper()
	one, other := watch(a), watch(b)
	if Same(one.l, other.l) != want || Same(other.l, one.l) != want {
		t.Errorf("Same(%v, %v) is not %v", a, b, want)
	}
	one.check(t)
	other.check(t)
}

// P15.1: Right, by hand.
func TestRight(t *testing.T) {
	for _, x := range []struct {
		l    []api.Pin
		want bool
	}{
		{nil, true}, {[]api.Pin{}, true},
		// one: any Id, a stamp of 0 or more
		{[]api.Pin{{}}, true}, {of(1), true}, {of(-1), true}, {of(lowId), true}, {of(topId), true},
		{stamped(0), true}, {stamped(1), true}, {stamped(api.MaxStamp + 1), true}, {stamped(top), true},
		{stamped(-1), false}, {stamped(-2), false}, {stamped(low), false}, {stamped(low + 1), false}, {[]api.Pin{at(-1, -1)}, false}, {[]api.Pin{at(lowId, low)}, false},
		// Ids that rise, by whatever
		{of(1, 2), true}, {of(-1, 0), true}, {of(0, 1), true}, {of(-7, -3, 0, 4, 90), true}, {of(lowId, topId), true}, {of(lowId, -1, 0, 1, topId), true}, {of(topId-1, topId), true}, {of(lowId, lowId+1), true},
		// two that are one, at the head, in the midst, at the end
		{of(1, 1), false}, {of(0, 0), false}, {of(lowId, lowId), false}, {of(topId, topId), false}, {of(1, 1, 2, 3), false}, {of(1, 2, 2, 3), false}, {of(1, 2, 3, 3), false}, {of(-1, -1, 5), false},
		// falling there
		{of(2, 1), false}, {of(0, -1), false}, {of(topId, lowId), false}, {of(2, 1, 3, 4), false}, {of(1, 3, 2, 4), false}, {of(1, 2, 4, 3), false}, {of(3, 4, 1, 2), false}, {of(1, 2, 1), false},
		// a stamp below 0 at the head, in the midst, at the end
		{stamped(-1, 1, 2), false}, {stamped(1, -1, 2), false}, {stamped(1, 2, -1), false}, {stamped(low, 1), false}, {stamped(1, low), false}, {stamped(-1, -1), false},
		// stamps needn't rise, and may be one
		{stamped(2, 1, 0), true}, {stamped(0, 0, 0), true}, {stamped(top, top), true}, {stamped(top, 0), true}, {stamped(5, 9, 2, 9), true},
		// both wrong
		{[]api.Pin{at(2, -1), at(1, -1)}, false}, {[]api.Pin{at(2, 0), at(2, -1)}, false},
	} {
		checkRight(t, x.l, x.want)
	}
}

// P15.1: Add, by hand.
func TestAdd(t *testing.T) {
	there := of(3, 5, 9)
	for _, x := range []struct {
		l, p, want []api.Pin
		e          api.Errno
	}{
		// none, and none added
		{nil, nil, nil, api.OK}, {[]api.Pin{}, []api.Pin{}, nil, api.OK}, {there, nil, there, api.OK}, {of(-4), nil, of(-4), api.OK},
		// onto none
		{nil, of(1), of(1), api.OK}, {nil, []api.Pin{{}}, []api.Pin{{}}, api.OK}, {nil, []api.Pin{at(-3, top)}, []api.Pin{at(-3, top)}, api.OK},
		{nil, []api.Pin{at(3, 7), at(1, 4), at(2, 0)}, []api.Pin{at(1, 4), at(2, 0), at(3, 7)}, api.OK},
		{nil, []api.Pin{at(topId, 1), at(lowId, 2), at(0, 3)}, []api.Pin{at(lowId, 2), at(0, 3), at(topId, 1)}, api.OK},
		// ahead of all, between two, behind all
		{there, []api.Pin{at(2, 8)}, slices.Concat([]api.Pin{at(2, 8)}, there), api.OK},
		{there, []api.Pin{at(-2, 8)}, slices.Concat([]api.Pin{at(-2, 8)}, there), api.OK},
		{there, []api.Pin{at(lowId, 8)}, slices.Concat([]api.Pin{at(lowId, 8)}, there), api.OK},
		{there, []api.Pin{at(4, 8)}, slices.Concat(there[:1], []api.Pin{at(4, 8)}, there[1:]), api.OK},
		{there, []api.Pin{at(8, 0)}, slices.Concat(there[:2], []api.Pin{at(8, 0)}, there[2:]), api.OK},
		{there, []api.Pin{at(10, 8)}, slices.Concat(there, []api.Pin{at(10, 8)}), api.OK},
		{there, []api.Pin{at(topId, top)}, slices.Concat(there, []api.Pin{at(topId, top)}), api.OK},
		{there, []api.Pin{at(7, 1), at(10, 2), at(1, 3), at(4, 4), at(6, 5)}, []api.Pin{at(1, 3), there[0], at(4, 4), there[1], at(6, 5), at(7, 1), there[2], at(10, 2)}, api.OK},
		// stamps of 0, of 1, just below 0, the greatest, the least
		{there, []api.Pin{at(10, 0)}, slices.Concat(there, []api.Pin{at(10, 0)}), api.OK}, {there, []api.Pin{at(10, 1)}, slices.Concat(there, []api.Pin{at(10, 1)}), api.OK},
		{there, []api.Pin{at(10, before)}, nil, api.ErrArg}, {there, []api.Pin{at(10, low)}, nil, api.ErrArg}, {nil, []api.Pin{at(0, before)}, nil, api.ErrArg}, {nil, []api.Pin{at(-1, -1)}, nil, api.ErrArg},
		// an Id that is there: the first, in the midst, the last
		{there, of(3), nil, api.ErrTwice}, {there, of(5), nil, api.ErrTwice}, {there, of(9), nil, api.ErrTwice}, {there, there[1:2], nil, api.ErrTwice}, {of(0), of(0), nil, api.ErrTwice}, {of(lowId), of(lowId), nil, api.ErrTwice}, {of(topId), of(topId), nil, api.ErrTwice},
		// both: the stamp comes first
		{there, []api.Pin{at(3, before)}, nil, api.ErrArg}, {there, []api.Pin{at(9, low)}, nil, api.ErrArg},
		// one that another one added before it has
		{there, of(4, 4), nil, api.ErrTwice}, {nil, of(4, 4), nil, api.ErrTwice}, {nil, []api.Pin{at(4, 1), at(6, 2), at(4, 3)}, nil, api.ErrTwice}, {nil, []api.Pin{at(4, 1), at(4, before)}, nil, api.ErrArg}, {there, of(11, 10, 11), nil, api.ErrTwice},
		// a later one is wrong: nothing is answered of those before
		{there, []api.Pin{at(4, 1), at(6, before)}, nil, api.ErrArg}, {there, []api.Pin{at(4, 1), at(5, 2)}, nil, api.ErrTwice},
		// two are wrong: the first one tells
		{there, []api.Pin{at(5, 1), at(6, before)}, nil, api.ErrTwice}, {there, []api.Pin{at(6, before), at(5, 1)}, nil, api.ErrArg}, {nil, []api.Pin{at(6, 1), at(6, 1), at(7, before)}, nil, api.ErrTwice}, {nil, []api.Pin{at(6, 1), at(7, before), at(6, 1)}, nil, api.ErrArg},
		// onto what isn't in order: nothing, what may be added, what may not
		{of(2, 1), nil, nil, api.ErrOrder}, {of(2, 2), nil, nil, api.ErrOrder}, {stamped(-1), nil, nil, api.ErrOrder}, {stamped(1, 2, low), nil, nil, api.ErrOrder},
		{of(2, 1), of(7), nil, api.ErrOrder}, {of(2, 2), of(2), nil, api.ErrOrder}, {of(2, 1), []api.Pin{at(7, before)}, nil, api.ErrOrder}, {stamped(-1), []api.Pin{at(7, before)}, nil, api.ErrOrder}, {of(1, 5, 3), of(4), nil, api.ErrOrder},
	} {
		checkAdd(t, x.l, x.p, x.want, x.e)
	}
}

// P15.1: Drop and Find, by hand: of an Id that is there once, more than once, not at all.
func TestDropAndFind(t *testing.T) {
	three := []api.Pin{at(1, 4), at(2, 0), at(3, 7)}
	often := []api.Pin{at(4, 9), at(2, 5), at(4, 1), at(2, -6), at(4, low), at(0, 8)}
	edges := []api.Pin{at(lowId, 0), at(-1, 1), at(0, top), at(topId, 2)}
	for _, x := range []struct {
		l     []api.Pin
		id    int
		left  []api.Pin
		stamp int64
		e     api.Errno
	}{
		{nil, 0, nil, 0, api.ErrNone}, {[]api.Pin{}, 1, nil, 0, api.ErrNone},
		// the first, the one in the midst, the last, the only one
		{three, 1, three[1:], 4, api.OK}, {three, 2, slices.Concat(three[:1], three[2:]), 0, api.OK}, {three, 3, three[:2], 7, api.OK}, {three[:1], 1, nil, 4, api.OK}, {[]api.Pin{{}}, 0, nil, 0, api.OK},
		// not there: below, between, above
		{three, 0, nil, 0, api.ErrNone}, {three, -1, nil, 0, api.ErrNone}, {three, 4, nil, 0, api.ErrNone}, {three, 7, nil, 0, api.ErrNone}, {three, lowId, nil, 0, api.ErrNone}, {three, topId, nil, 0, api.ErrNone}, {of(1, 3), 2, nil, 0, api.ErrNone},
		// more than once, in pins that aren't in order
		{often, 4, often[1:], 9, api.OK}, {often, 2, slices.Concat(often[:1], often[2:]), 5, api.OK}, {often, 0, often[:5], 8, api.OK}, {often, 3, nil, 0, api.ErrNone}, {often[1:], 4, slices.Concat(often[1:2], often[3:]), 1, api.OK}, {often[3:], 2, often[4:], -6, api.OK}, {often[3:], 4, slices.Concat(often[3:4], often[5:]), low, api.OK},
		// at the edges of an Id's type
		{edges, lowId, edges[1:], 0, api.OK}, {edges, -1, slices.Concat(edges[:1], edges[2:]), 1, api.OK}, {edges, 0, slices.Concat(edges[:2], edges[3:]), top, api.OK}, {edges, topId, edges[:3], 2, api.OK}, {edges, 1, nil, 0, api.ErrNone}, {edges, lowId + 1, nil, 0, api.ErrNone}, {edges, topId - 1, nil, 0, api.ErrNone},
	} {
		checkDrop(t, x.l, x.id, x.left, x.e)
		checkFind(t, x.l, x.id, x.stamp, x.e == api.OK)
	}
}

// P15.1: Floor, by hand; the first is the chapter's example.
func TestFloor(t *testing.T) {
	for _, x := range []struct {
		stable int64
		l      []api.Pin
		want   int64
	}{
		{9, stamped(7, 4), 4},
		// no pins
		{9, nil, 9}, {0, nil, 0}, {-3, nil, -3}, {top, nil, top}, {low, []api.Pin{}, low},
		// above, at and below stable
		{9, stamped(10), 9}, {9, stamped(9), 9}, {9, stamped(8), 8}, {9, stamped(12, 10, 11), 9}, {9, stamped(9, 9), 9}, {9, stamped(10, 9, 8), 8}, {3, stamped(7, 4), 3}, {4, stamped(7, 4), 4}, {5, stamped(7, 4), 4},
		// the least first, in the midst, last
		{9, stamped(2, 5, 7), 2}, {9, stamped(5, 2, 7), 2}, {9, stamped(7, 5, 2), 2}, {9, stamped(2, 2, 2), 2},
		// 0, below 0, the greatest, the least
		{9, stamped(7, 0), 0}, {0, stamped(7, 0), 0}, {0, stamped(1), 0}, {1, stamped(0), 0}, {0, stamped(-1), -1}, {-3, stamped(0, 5), -3}, {-3, stamped(-4, -2), -4}, {9, stamped(top, 3), 3}, {top, stamped(top), top}, {top, stamped(top - 1), top - 1}, {9, stamped(low, 3), low}, {low, stamped(top), low}, {top, stamped(low), low},
		// Ids don't count, nor that they aren't in order
		{9, of(4, 2, 4), wantFloor(9, of(4, 2, 4))}, {9, []api.Pin{at(-5, 7), at(lowId, 8)}, 7}, {9, []api.Pin{at(2, 6), at(2, 5), at(1, 8)}, 5},
	} {
		checkFloor(t, x.stable, x.l, x.want)
	}
}

// P15.1: Same, by hand: one field of one pin, and how many there are.
func TestSame(t *testing.T) {
	three := []api.Pin{at(1, 4), at(2, 0), at(3, 7)}
	checkSame(t, nil, nil, true)
	checkSame(t, nil, []api.Pin{}, true)
	checkSame(t, nil, []api.Pin{{}}, false)
	checkSame(t, three, slices.Clone(three), true)
	checkSame(t, of(2, 1, 1), of(2, 1, 1), true)
	checkSame(t, []api.Pin{at(lowId, low), at(topId, top)}, []api.Pin{at(lowId, low), at(topId, top)}, true)
	for n := range three {
		checkSame(t, three, three[:n], false)
		checkSame(t, three, three[n+1:], false)
		checkSame(t, three, slices.Concat(three[:n], []api.Pin{{}}, three[n:]), false)
		for by, byId := range map[int64]int{1: 1, -1: -1, low: lowId} {
			stamp, id := slices.Clone(three), slices.Clone(three)
			stamp[n].Stamp += by
			id[n].Id += byId
			checkSame(t, three, stamp, false)
			checkSame(t, three, id, false)
			checkSame(t, stamp, slices.Clone(stamp), true)
		}
	}
	checkSame(t, of(1, 2), []api.Pin{of(1, 2)[1], of(1, 2)[0]}, false)
	checkSame(t, []api.Pin{at(1, 2)}, []api.Pin{at(2, 1)}, false)
}

// few is pins that differ in Ids, in stamps, in both; some may not be.
func few() []api.Pin {
	return []api.Pin{at(1, 0), at(1, 5), at(2, 3), at(3, before), at(-1, 1)}
}

// P15.1, P15.2: all short lists of pins, and all short lists that are added, against other means.
func TestAllShort(t *testing.T) {
	lists.EachShort(few(), 3, func(l []api.Pin) {
		checkRight(t, l, wantRight(l))
		for id := -2; id <= 4; id++ {
			left, e := wantDrop(l, id)
			checkDrop(t, l, id, left, e)
			stamp, ok := wantFind(l, id)
			checkFind(t, l, id, stamp, ok)
		}
		for stable := int64(-2); stable <= 6; stable++ {
			checkFloor(t, stable, l, wantFloor(stable, l))
		}
		lists.EachShort(few(), 3, func(p []api.Pin) {
			want, e := wantAdd(l, p)
			checkAdd(t, l, p, want, e)
			checkSame(t, l, p, equal(l, p))
			checkBack(t, l, p)
		})
	})
}

// checkBack adds p, if that may be, drops it again, one by one from ahead or from behind, and wants all as it was; the floor rises with none of them.
func checkBack(t *testing.T, l, p []api.Pin) {
	t.Helper()
	more, e := Add(l, p...)
	if e != api.OK {
		return
	}
	for _, drops := range [][]api.Pin{p, reversed(p)} {
		left := more
		for _, one := range drops {
			was := left
			if left, e = Drop(was, one.Id); e != api.OK {
				t.Fatalf("%v couldn't be dropped again of %v: %v", one, was, e)
			}
			if _, ok := Find(left, one.Id); ok || len(left) != len(was)-1 {
				t.Errorf("with %v dropped of %v there is %v", one, was, left)
			}
			for _, stable := range []int64{low, -1, 0, 1, 3, 4, 9, top} {
				if Floor(stable, was...) > Floor(stable, left...) {
					t.Errorf("the floor of %v is greater than that of %v, at stable %d", was, left, stable)
				}
			}
		}
		if !Same(left, l) || !equal(left, l) {
			t.Errorf("with %v added and dropped again %v became %v", p, l, left)
		}
	}
}

// reversed is l from behind.
func reversed(l []api.Pin) []api.Pin {
	l = slices.Clone(l)
	slices.Reverse(l)
	return l
}

// P15.2: added in every order, one by one or all at once, it is the same, and dropped in every order nothing is left.
func TestEveryOrder(t *testing.T) {
	want := []api.Pin{at(lowId, 3), at(-1, 9), at(0, 0), at(4, 9), at(topId, top)}
	lists.EachOrder(want, func(p []api.Pin) {
		checkAdd(t, nil, p, want, api.OK)
		var l []api.Pin
		floor := int64(10)
		for _, one := range p {
			more, e := Add(l, one)
			if e != api.OK || len(more) != len(l)+1 {
				t.Fatalf("Add(%v, %v) = %v, %v", l, one, more, e)
			}
			l = more
			if stamp, ok := Find(l, one.Id); !ok || stamp != one.Stamp {
				t.Errorf("%v is found in %v as %d, %v", one, l, stamp, ok)
			}
			now := Floor(10, l...)
			if now > floor || now != min(floor, one.Stamp) {
				t.Errorf("with %v the floor %d became %d", one, floor, now)
			}
			floor = now
		}
		if !equal(l, want) {
			t.Errorf("added one by one as %v: %v", p, l)
		}
		checkBack(t, nil, p)
		checkBack(t, []api.Pin{at(-5, 2), at(2, 6)}, p)
	})
}

// P15.1: many pins, added from ahead, from behind, and from the midst.
func TestMany(t *testing.T) {
	var rising, mixed []api.Pin
	for i := range 2000 {
		rising = append(rising, at(i-700, int64(i*7919%2003)))
		mixed = append(mixed, at(i*1009%2000-700, int64(i*1009%2000*7919%2003)))
	}
	for _, p := range [][]api.Pin{rising, reversed(rising), mixed} {
		checkAdd(t, nil, p, rising, api.OK)
		checkAdd(t, rising[500:700], slices.Concat(p, p[:1]), nil, api.ErrTwice)
	}
	checkAdd(t, rising[:1000], reversed(rising[1000:]), rising, api.OK)
	checkAdd(t, rising[1000:], rising[:1000], rising, api.OK)
	checkBack(t, rising[:900], rising[900:950])
}

// P15.1: nothing is kept: an answer hangs on the call's own arguments, and parts of two answers share no memory.
func TestNothingIsKept(t *testing.T) {
	l, p := of(2, 5), of(9, 3)
	want, _ := wantAdd(l, p)
	for range 3 {
		checkAdd(t, l, p, want, api.OK)
		checkAdd(t, l, l, nil, api.ErrTwice)
		checkAdd(t, nil, l, l, api.OK)
		checkAdd(t, l, nil, l, api.OK)
		checkDrop(t, l, 5, l[:1], api.OK)
		checkDrop(t, nil, 5, nil, api.ErrNone)
		checkFind(t, l, 5, l[1].Stamp, true)
		checkFind(t, nil, 5, 0, false)
		checkFloor(t, 9, l, 9)
		checkFloor(t, 99, nil, 99)
	}
	one, _ := Add(l, p...)
	two, _ := Add(l, p...)
	left, _ := Drop(l, 5)
	again, _ := Drop(l, 5)
	spoil(one)
	spoil(left)
	if !equal(two, want) || !equal(again, of(2)) || !equal(l, of(2, 5)) || !equal(p, of(9, 3)) {
		t.Errorf("two became %v, again %v, l %v, p %v", two, again, l, p)
	}
}

// P15.1: an answer stays when the arguments are written into afterwards.
func TestAnswersStay(t *testing.T) {
	l, p := of(2, 5, 7), of(8, 9)
	both, _ := Add(l, p...)
	alone, _ := Add(l)
	onto, _ := Add(nil, p...)
	ahead, _ := Drop(l, 2)
	behind, _ := Drop(l, 7)
	spoil(l)
	spoil(p)
	was := of(2, 5, 7)
	if !equal(both, slices.Concat(was, of(8, 9))) || !equal(alone, was) || !equal(onto, of(8, 9)) || !equal(ahead, was[1:]) || !equal(behind, was[:2]) {
		t.Errorf("answers became %v, %v, %v, %v, %v", both, alone, onto, ahead, behind)
	}
}

// fuzzed is pins out of bytes: an Id and a stamp each, 127 one that is told by eight bytes.
func fuzzed(b []byte) []api.Pin {
	number := func() int64 {
		if len(b) == 0 {
			return 0
		}
		n := int64(int8(b[0]))
		b = b[1:]
		if n == 127 && len(b) >= 8 {
			n = int64(binary.LittleEndian.Uint64(b))
			b = b[8:]
		}
		return n
	}
	var l []api.Pin
	for len(b) > 0 {
		id := number()
		l = append(l, at(int(id), number()))
	}
	return l
}

// P15.1, P15.2: the same for whatever a fuzzer finds.
func FuzzPins(f *testing.F) {
	for _, b := range [][]byte{nil, {1, 7, 2, 4}, {3, 7, 1, 4}, {255, 0}, {1, 255}, {2, 1, 2, 1}, {127, 0, 0, 0, 0, 0, 0, 0, 128, 5}} {
		f.Add(b, []byte{4, 4, 2, 0}, int64(9), 2)
		f.Add(b, b, int64(-1), -1)
	}
	f.Fuzz(func(t *testing.T, there, more []byte, stable int64, id int) {
		l, p := fuzzed(there), fuzzed(more)
		checkRight(t, l, wantRight(l))
		want, e := wantAdd(l, p)
		checkAdd(t, l, p, want, e)
		for _, one := range []int{id, 0} {
			left, e := wantDrop(l, one)
			checkDrop(t, l, one, left, e)
			stamp, ok := wantFind(l, one)
			checkFind(t, l, one, stamp, ok)
		}
		checkFloor(t, stable, l, wantFloor(stable, l))
		checkSame(t, l, p, equal(l, p))
		checkBack(t, l, p)
	})
}
