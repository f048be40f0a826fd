package shard

import (
	"bytes"
	"math"
	"slices"
	"testing"

	"ebbtide/api"
	"ebbtide/cell"
	"ebbtide/chain"
	"ebbtide/lists"
)

const (
	top = math.MaxInt64
	low = math.MinInt64
	end = api.MaxStamp
)

// version is one of a stamp and samples.
func version(stamp int64, samples ...int64) api.Version {
	return api.Version{Stamp: stamp, Cell: cell.Of(samples...)}
}

// counted is a version of a stamp, and a cell of so many samples, the other parts of which are not 0.
func counted(stamp, count int64) api.Version {
	return api.Version{Stamp: stamp, Cell: api.Cell{Count: count, Sum: api.Sum{N: 7}, Min: -3, Max: 9}}
}

// entry is a window's and a key's versions.
func entry(window int64, key string, l ...api.Version) api.Entry {
	return api.Entry{Window: window, Key: key, Versions: l}
}

// at is an entry with a version at each of some stamps; their cells tell their places, too.
func at(window int64, key string, stamps ...int64) api.Entry {
	one := entry(window, key)
	for place, stamp := range stamps {
		one.Versions = append(one.Versions, version(stamp, stamp, int64(place), window))
	}
	return one
}

// item is a window's and a key's, with samples.
func item(window int64, key string, samples ...int64) api.Item {
	return api.Item{Window: window, Key: key, Cell: cell.Of(samples...)}
}

// write is a sample that was accepted.
func write(stamp, window int64, key string, value int64) api.Write {
	return api.Write{Stamp: stamp, Window: window, Key: key, Value: value}
}

// of is a shard of entries.
func of(l ...api.Entry) api.Shard { return api.Shard{Entries: l} }

// drop is a window's, from a stamp on.
func drop(window, stamp int64) api.Drop { return api.Drop{Window: window, Stamp: stamp} }

// own is l with versions of its own, as many as each list of them has room for.
func own(l []api.Entry) []api.Entry {
	var copies []api.Entry
	for _, one := range l {
		one.Versions = slices.Clone(one.Versions[:cap(one.Versions)])
		copies = append(copies, one)
	}
	return copies
}

// equal: one by one, by other means than Same.
func equal(a, b []api.Entry) bool {
	if len(a) != len(b) {
		return false
	}
	for i := range a {
		if a[i].Window != b[i].Window || a[i].Key != b[i].Key || len(a[i].Versions) != len(b[i].Versions) {
			return false
		}
		for j, v := range a[i].Versions {
			if v != b[i].Versions[j] {
				return false
			}
		}
	}
	return true
}

// watched is a shard that is handed in, with spare room behind its entries and behind each one's versions, all of it not empty, and what it was.
type watched struct {
	api.Shard
	whole, was []api.Entry
	sizes      []int
}

// watch makes one that is like s.
func watch(s api.Shard) watched {
	w := watched{}
	for _, one := range slices.Concat(s.Entries, of(at(3, "spare", 5), entry(-8, "more")).Entries) {
		n := len(one.Versions)
		one.Versions = append(slices.Clone(one.Versions), version(88, 8), version(2, 9))[:n]
		w.whole = append(w.whole, one)
		w.sizes = append(w.sizes, n)
	}
	w.was = own(w.whole)
	w.Entries = w.whole[:len(s.Entries)]
	return w
}

// check: is all of it as it was?
func (w watched) check(t *testing.T) {
	t.Helper()
	if !equal(own(w.whole), w.was) {
		t.Errorf("%v became %v", w.was, own(w.whole))
	}
	for i, one := range w.whole {
		if len(one.Versions) != w.sizes[i] {
			t.Errorf("entry %d has %d versions, and had %d", i, len(one.Versions), w.sizes[i])
		}
	}
}

// spoil writes into all of an answer, its spare room, too; each list that is written into must change no other one of it.
func spoil(t *testing.T, s api.Shard) {
	t.Helper()
	for i, one := range s.Entries {
		others := own(slices.Concat(s.Entries[:i], s.Entries[i+1:]))
		all := one.Versions[:cap(one.Versions)]
		for j := range all {
			all[j] = version(-77, 7)
		}
		if got := own(slices.Concat(s.Entries[:i], s.Entries[i+1:])); !equal(got, others) {
			t.Errorf("behind a write into entry %d %v became %v", i, others, got)
		}
	}
	clear(s.Entries[:cap(s.Entries)])
}

// roomyDrops is l with spare room behind it that is not empty, and all of that.
func roomyDrops(l []api.Drop) (short, whole []api.Drop) {
	whole = slices.Concat(l, []api.Drop{drop(1, 1), drop(2, 1), drop(-1, 0)})
	return whole[:len(l)], whole
}

// wantAhead: does a stand ahead of b, by window, then by key?
func wantAhead(a, b api.Entry) bool {
	if a.Window != b.Window {
		return a.Window < b.Window
	}
	return bytes.Compare([]byte(a.Key), []byte(b.Key)) < 0
}

// wantRight is what Right must answer: each two rise, and each two stamps of each entry.
func wantRight(s api.Shard) bool {
	for i, a := range s.Entries {
		for _, b := range s.Entries[i+1:] {
			if !wantAhead(a, b) {
				return false
			}
		}
		if len(a.Versions) == 0 {
			return false
		}
		for j, v := range a.Versions {
			if v.Stamp < 1 || v.Stamp > 1000000000000000 {
				return false
			}
			for _, w := range a.Versions[j+1:] {
				if v.Stamp >= w.Stamp {
					return false
				}
			}
		}
	}
	return true
}

// wantApply is what Apply must answer: a version more, behind those that are there, or in an entry that is put where it belongs.
func wantApply(s api.Shard, w api.Write) (api.Shard, api.Errno) {
	var ahead, behind []api.Entry
	here := entry(w.Window, w.Key)
	for _, one := range s.Entries {
		switch {
		case wantAhead(one, here):
			ahead = append(ahead, one)
		case wantAhead(here, one):
			behind = append(behind, one)
		default:
			here.Versions = slices.Clone(one.Versions)
		}
	}
	last := api.Version{}
	for _, v := range here.Versions {
		last = v
	}
	if !wantRight(s) || w.Stamp <= last.Stamp || w.Stamp > 1000000000000000 {
		return api.Shard{}, api.ErrOrder
	}
	here.Versions = append(here.Versions, api.Version{Stamp: w.Stamp, Cell: cell.Fold(last.Cell, w.Value)})
	return api.Shard{Entries: append(append(ahead, here), behind...)}, api.OK
}

// wantDropped: is a window, at a stamp?
func wantDropped(window, stamp int64, drops []api.Drop) bool {
	for _, d := range drops {
		if d.Window == window && stamp >= d.Stamp {
			return true
		}
	}
	return false
}

// wantRead is what Read must answer: of each entry that isn't dropped the last cell that isn't above the stamp, if it has samples.
func wantRead(s api.Shard, stamp int64, drops []api.Drop) []api.Item {
	items := []api.Item{}
	for _, one := range s.Entries {
		if wantDropped(one.Window, stamp, drops) {
			continue
		}
		found := api.Cell{}
		for _, v := range one.Versions {
			if v.Stamp <= stamp {
				found = v.Cell
			}
		}
		if found.Count > 0 {
			items = append(items, api.Item{Window: one.Window, Key: one.Key, Cell: found})
		}
	}
	return items
}

// wantPrune is what Prune must answer: of each entry that isn't dropped the versions that are above the floor, or have none behind them that isn't.
func wantPrune(s api.Shard, floor int64, drops []api.Drop) api.Shard {
	left := api.Shard{}
	for _, one := range s.Entries {
		if wantDropped(one.Window, floor, drops) {
			continue
		}
		var versions []api.Version
		for i, v := range one.Versions {
			if v.Stamp > floor || !slices.ContainsFunc(one.Versions[i+1:], func(w api.Version) bool { return w.Stamp <= floor }) {
				versions = append(versions, v)
			}
		}
		left.Entries = append(left.Entries, entry(one.Window, one.Key, versions...))
	}
	return left
}

// checkRight holds Right against what is wanted, and s against what it was.
func checkRight(t *testing.T, s api.Shard, want bool) {
	t.Helper()
	w := watch(s)
	if got := Right(w.Shard); got != want {
		t.Errorf("Right of %v = %v", s, got)
	}
	w.check(t)
}

// checkApply holds Apply so, also when the answer is written into.
func checkApply(t *testing.T, s api.Shard, one api.Write, want api.Shard, e api.Errno) {
	t.Helper()
	w := watch(s)
	got, f := Apply(w.Shard, one)
	if f != e || !equal(got.Entries, want.Entries) {
		t.Errorf("Apply(%v, %v) = %v, %d, want %v, %d", s, one, got, f, want, e)
	}
	w.check(t)
	spoil(t, got)
	w.check(t)
}

// checkRead holds Read so.
func checkRead(t *testing.T, s api.Shard, stamp int64, drops []api.Drop, want []api.Item) {
	t.Helper()
	w := watch(s)
	short, whole := roomyDrops(drops)
	was := slices.Clone(whole)
	got := Read(w.Shard, stamp, short...)
	if !slices.Equal(got, want) {
		t.Errorf("Read(%v, %d, %v) = %v, want %v", s, stamp, drops, got, want)
	}
	clear(got[:cap(got)])
	w.check(t)
	if !slices.Equal(whole, was) {
		t.Errorf("%v became %v", was, whole)
	}
}

// checkPrune holds Prune so.
func checkPrune(t *testing.T, s api.Shard, floor int64, drops []api.Drop, want api.Shard) {
	t.Helper()
	w := watch(s)
	short, whole := roomyDrops(drops)
	was := slices.Clone(whole)
	got := Prune(w.Shard, floor, short...)
	if !equal(got.Entries, want.Entries) {
		t.Errorf("Prune(%v, %d, %v) = %v, want %v", s, floor, drops, got, want)
	}
	w.check(t)
	spoil(t, got)
	w.check(t)
	if !slices.Equal(whole, was) {
		t.Errorf("%v became %v", was, whole)
	}
}

// checkSize holds Size so.
func checkSize(t *testing.T, s api.Shard, want int) {
	t.Helper()
	w := watch(s)
	if got := Size(w.Shard); got != want {
		t.Errorf("Size of %v = %d, want %d", s, got, want)
	}
	w.check(t)
}

// P11.1: Right, by hand: what is in order.
func TestRight(t *testing.T) {
	if !Right(api.Shard{}) || !Right(api.Shard{Entries: []api.Entry{}}) {
		t.Error("no entries are not in order")
	}
	for _, s := range []api.Shard{
		of(),
		of(at(0, "", 1)),
		of(at(5, "a", 1)), of(at(-5, "a", end)), of(at(low, "a", 1, end)), of(at(top, "a", 2, 5, 9)),
		// Windows that rise, whatever the Keys
		of(at(1, "a", 1), at(2, "a", 1)), of(at(1, "b", 1), at(2, "a", 1)), of(at(-1, "b", 9), at(0, "a", 1)), of(at(9, "a", 1), at(10, "a", 1)),
		of(at(low, "a", 1), at(top, "a", 1)), of(at(low, "b", 1), at(-1, "a", 1), at(0, "a", 1), at(1, "", 1), at(top, "", 1)),
		of(at(1, "a", 1), at(1+1<<32, "a", 1)), of(at(1<<32, "a", 1), at(1<<32+1, "a", 1)),
		// Keys that rise within one Window
		of(at(1, "a", 1), at(1, "b", 1)), of(at(1, "", 1), at(1, "a", 1)), of(at(1, "a", 1), at(1, "aa", 1)), of(at(1, "B", 1), at(1, "a", 1)), of(at(1, "a10", 1), at(1, "a9", 1)),
		of(at(1, "a", 1), at(1, "a\x00", 1)), of(at(1, "a\x00", 1), at(1, "a\x01", 1)), of(at(1, "\x7f", 1), at(1, "\x80", 1)), of(at(1, "\xc3\xa9", 1), at(1, "\xff", 1)), of(at(1, "z", 1), at(1, "\xc3\xa9", 1)),
		of(at(1, "cpu", 1), at(1, "cpu{a=1,b=2}", 1), at(1, "cpu{a=10}", 1), at(1, "cpu{a=1}", 1)),
		// stamps of one entry tell nothing of another one's
		of(at(1, "a", 5, 9), at(1, "b", 2, 5), at(2, "a", 5, 9), at(3, "a", 1)),
		// whatever cells there are
		of(entry(1, "a", counted(1, 0), counted(2, -4), counted(3, top)), entry(2, "a", api.Version{Stamp: 1})),
	} {
		checkRight(t, s, true)
	}
}

// P11.1: Right, by hand: what isn't in order.
func TestRightNotInOrder(t *testing.T) {
	for _, s := range []api.Shard{
		// an entry without versions, wherever it stands
		of(entry(1, "a")), of(api.Entry{}), of(api.Entry{Versions: []api.Version{}}), of(entry(1, "a"), at(2, "a", 1)), of(at(1, "a", 1), entry(2, "a")), of(at(1, "a", 1), entry(2, "a"), at(3, "a", 1)),
		// versions that are not in order, or may not be
		of(at(1, "a", 5, 2)), of(at(1, "a", 5, 5)), of(at(1, "a", 2, 9, 5)), of(at(1, "a", 0)), of(at(1, "a", -1)), of(at(1, "a", low)), of(at(1, "a", end+1)), of(at(1, "a", top)), of(at(1, "a", 0, 1)), of(at(1, "a", 1, end+1)),
		of(at(1, "a", 1), at(2, "a", 5, 2)), of(at(1, "a", 5, 2), at(2, "a", 1)), of(at(1, "a", 1), at(2, "a", 0), at(3, "a", 1)), of(at(1, "a", 1), at(2, "a", 2), at(3, "a", 3, 3)),
		// Windows that fall, whatever the Keys
		of(at(2, "a", 1), at(1, "a", 1)), of(at(2, "a", 1), at(1, "b", 1)), of(at(0, "a", 1), at(-1, "b", 1)), of(at(10, "a", 1), at(9, "a", 1)), of(at(top, "a", 1), at(low, "b", 1)), of(at(1<<32, "a", 1), at(1, "b", 1)),
		of(at(1, "a", 1), at(3, "a", 1), at(2, "a", 1)), of(at(2, "a", 1), at(1, "a", 1), at(3, "a", 1)),
		// Keys that fall within one Window
		of(at(1, "b", 1), at(1, "a", 1)), of(at(1, "a", 1), at(1, "", 1)), of(at(1, "aa", 1), at(1, "a", 1)), of(at(1, "a", 1), at(1, "B", 1)), of(at(1, "a9", 1), at(1, "a10", 1)), of(at(1, "a\x00", 1), at(1, "a", 1)), of(at(1, "\x80", 1), at(1, "\x7f", 1)), of(at(1, "\xff", 1), at(1, "\xc3\xa9", 1)),
		of(at(1, "a", 1), at(1, "c", 1), at(1, "b", 1)), of(at(1, "a", 1), at(2, "b", 1), at(2, "a", 1)), of(at(1, "b", 1), at(1, "a", 1), at(2, "a", 1)),
		// two alike in both, whatever their versions
		of(at(1, "a", 1), at(1, "a", 1)), of(at(1, "a", 1), at(1, "a", 2)), of(at(0, "", 1), at(0, "", 2)), of(at(1, "a", 1), at(2, "a", 1), at(2, "a", 5)), of(at(1, "a", 1), at(1, "b", 1), at(1, "a", 1)),
	} {
		checkRight(t, s, false)
	}
}

// P11.1: Apply, by hand: where a new entry comes to stand; the others keep what they have.
func TestApplyOfNewOne(t *testing.T) {
	a, b, c, d := at(2, "b", 3, 4), at(2, "d", 1), at(5, "", 2, 8, end), at(5, "\x80", 6)
	all := []api.Entry{a, b, c, d}
	for _, x := range []struct {
		place  int
		window int64
		key    string
	}{
		// ahead of all
		{0, 1, "b"}, {0, 1, "z"}, {0, 0, "x"}, {0, -1, "x"}, {0, low, "x"}, {0, 2, ""}, {0, 2, "a"}, {0, 2, "B"}, {0, 2, "a\xff"},
		// between two
		{1, 2, "c"}, {1, 2, "b\x00"}, {1, 2, "bb"}, {1, 2, "cz"},
		{2, 2, "e"}, {2, 2, "d\x00"}, {2, 2, "\xff"}, {2, 3, ""}, {2, 3, "z"}, {2, 4, "b"},
		{3, 5, "\x00"}, {3, 5, "a"}, {3, 5, "\x7f\xff"},
		// behind all
		{4, 5, "\x80\x00"}, {4, 5, "\x81"}, {4, 5, "\xff\xff"}, {4, 6, ""}, {4, 6, "a"}, {4, 1 << 32, "a"}, {4, top, "a"},
	} {
		for _, stamp := range []int64{1, 3, 9, end - 1, end} {
			want := slices.Insert(slices.Clone(all), x.place, entry(x.window, x.key, version(stamp, -6)))
			checkApply(t, of(all...), write(stamp, x.window, x.key, -6), of(want...), api.OK)
		}
		for _, stamp := range []int64{low, -1, 0, end + 1, top} {
			checkApply(t, of(all...), write(stamp, x.window, x.key, -6), of(), api.ErrOrder)
		}
	}
}

// P11.1: Apply into no entries, by hand.
func TestApplyIntoNone(t *testing.T) {
	for _, s := range []api.Shard{{}, {Entries: []api.Entry{}}} {
		for _, w := range []api.Write{write(1, 0, "", 0), write(7, 2, "cpu", -5), write(end, 9, "cpu{a=1}", top), write(2, low, "\xff\x00", low), write(2, top, "x", 1)} {
			checkApply(t, s, w, of(entry(w.Window, w.Key, version(w.Stamp, w.Value))), api.OK)
		}
		for _, stamp := range []int64{low, -1, 0, end + 1, top} {
			checkApply(t, s, write(stamp, 0, "a", 1), of(), api.ErrOrder)
		}
	}
}

// P11.1: Apply into an entry that is there, by hand: its last version alone tells the Stamp and the Cell.
func TestApplyIntoOneThatIsThere(t *testing.T) {
	a := entry(1, "a", version(2, 50), version(5, 3, -1))
	b := entry(1, "b", version(9, 4))
	c := entry(2, "a", version(1, 8), version(7, 8, 8, 8))
	for _, x := range []struct {
		w    api.Write
		want api.Shard
	}{
		{write(6, 1, "a", 9), of(entry(1, "a", version(2, 50), version(5, 3, -1), version(6, 3, -1, 9)), b, c)},
		{write(end, 1, "a", 0), of(entry(1, "a", version(2, 50), version(5, 3, -1), version(end, 3, -1, 0)), b, c)},
		{write(10, 1, "b", -4), of(a, entry(1, "b", version(9, 4), version(10, 4, -4)), c)},
		{write(8, 2, "a", top), of(a, b, entry(2, "a", version(1, 8), version(7, 8, 8, 8), version(8, 8, 8, 8, top)))},
	} {
		checkApply(t, of(a, b, c), x.w, x.want, api.OK)
	}
	for _, w := range []api.Write{
		// at its last Stamp, and below it
		write(5, 1, "a", 1), write(4, 1, "a", 1), write(2, 1, "a", 1), write(3, 1, "a", 1), write(1, 1, "a", 1), write(9, 1, "b", 1), write(8, 1, "b", 1), write(7, 2, "a", 1), write(6, 2, "a", 1),
		// Stamps that may not be
		write(0, 1, "a", 1), write(-1, 1, "b", 1), write(low, 2, "a", 1), write(end+1, 1, "a", 1), write(end+1, 1, "b", 1), write(top, 2, "a", 1),
	} {
		checkApply(t, of(a, b, c), w, of(), api.ErrOrder)
	}
	full := of(entry(1, "a", version(end, 1)))
	for _, stamp := range []int64{1, end - 1, end, end + 1, top} {
		checkApply(t, full, write(stamp, 1, "a", 1), of(), api.ErrOrder)
	}
}

// P11.1: Apply to a last version of any cell: an empty one counts for nothing, a Count and a Sum stay at their bounds.
func TestApplyToAnyCell(t *testing.T) {
	for _, x := range []struct {
		was  api.Version
		v    int64
		want api.Cell
	}{
		{counted(3, 0), 5, cell.Of(5)},
		{counted(3, -1), 5, cell.Of(5)},
		{counted(3, low), 5, cell.Of(5)},
		{counted(3, 1), 5, api.Cell{Count: 2, Sum: api.Sum{N: 12}, Min: -3, Max: 9}},
		{counted(3, top), -5, api.Cell{Count: top, Sum: api.Sum{N: 2}, Min: -5, Max: 9}},
		{version(3, top), 1, api.Cell{Count: 2, Sum: api.Sum{N: top, Over: true}, Min: 1, Max: top}},
		{version(3, low, -1), 50, api.Cell{Count: 3, Sum: api.Sum{N: low, Over: true}, Min: low, Max: 50}},
	} {
		ahead, behind := entry(1, "a", counted(1, 0)), entry(3, "a", counted(9, -2))
		s := of(ahead, entry(2, "a", version(2, 1), x.was), behind)
		want := of(ahead, entry(2, "a", version(2, 1), x.was, api.Version{Stamp: 4, Cell: x.want}), behind)
		checkApply(t, s, write(4, 2, "a", x.v), want, api.OK)
	}
}

// P11.1: Apply to a shard that is not in order, wherever the write belongs.
func TestApplyNotInOrder(t *testing.T) {
	for _, s := range []api.Shard{
		of(entry(2, "b")), of(at(1, "a", 1), entry(2, "b")), of(api.Entry{}),
		of(at(2, "b", 5, 2)), of(at(2, "b", 5, 5)), of(at(2, "b", 0)), of(at(2, "b", end+1)), of(at(1, "a", 0), at(2, "b", 1)), of(at(2, "b", 1), at(3, "a", 2, 1)),
		of(at(2, "b", 1), at(1, "a", 1)), of(at(2, "b", 1), at(2, "a", 1)), of(at(2, "b", 1), at(2, "b", 2)), of(at(1, "a", 1), at(3, "a", 1), at(2, "b", 1)),
	} {
		for _, w := range []api.Write{write(9, 0, "a", 1), write(9, 2, "a", 1), write(9, 2, "b", 1), write(9, 2, "c", 1), write(9, 7, "a", 1), write(0, 2, "b", 1), write(end+1, 2, "b", 1)} {
			checkApply(t, s, w, of(), api.ErrOrder)
		}
	}
}

// P11.1: Read, by hand: stamps ahead of the first version, at one, between two and behind the last.
func TestRead(t *testing.T) {
	for _, stamp := range []int64{low, 0, 1, end, top} {
		checkRead(t, of(), stamp, nil, nil)
		checkRead(t, of(), stamp, []api.Drop{drop(0, 0)}, nil)
	}
	s := of(entry(1, "b", version(2, 5), version(5, 5, 6)), entry(2, "a", version(4, 7)), entry(2, "b", version(1, 8), version(end, 8, 9)))
	none := item(0, "")
	for _, x := range []struct {
		stamps  []int64
		b, a, c api.Item
	}{
		{[]int64{low, -1, 0}, none, none, none},
		{[]int64{1}, none, none, item(2, "b", 8)},
		{[]int64{2, 3}, item(1, "b", 5), none, item(2, "b", 8)},
		{[]int64{4}, item(1, "b", 5), item(2, "a", 7), item(2, "b", 8)},
		{[]int64{5, 6, 1 << 33, end - 1}, item(1, "b", 5, 6), item(2, "a", 7), item(2, "b", 8)},
		{[]int64{end, end + 1, top}, item(1, "b", 5, 6), item(2, "a", 7), item(2, "b", 8, 9)},
	} {
		want := slices.DeleteFunc([]api.Item{x.b, x.a, x.c}, func(one api.Item) bool { return one == none })
		for _, stamp := range x.stamps {
			checkRead(t, s, stamp, nil, want)
		}
	}
}

// P11.1: Read: a cell whose Count is 0 or below is no item, whatever else it has; one above 0 is told as it is.
func TestReadOfAnyCell(t *testing.T) {
	s := of(entry(1, "a", counted(2, 0), counted(4, 1), counted(6, -1), counted(8, top), counted(10, low)), entry(1, "b", api.Version{Stamp: 3}))
	for stamp, want := range map[int64]int64{1: 0, 2: 0, 3: 0, 4: 1, 5: 1, 6: 0, 7: 0, 8: top, 9: top, 10: 0, 99: 0} {
		var items []api.Item
		if want > 0 {
			items = append(items, api.Item{Window: 1, Key: "a", Cell: counted(0, want).Cell})
		}
		checkRead(t, s, stamp, nil, items)
	}
	odd := api.Cell{Count: 3, Sum: api.Sum{N: 0, Over: true}, Min: 9, Max: -9}
	checkRead(t, of(entry(1, "a", api.Version{Stamp: 2, Cell: odd})), 2, nil, []api.Item{{Window: 1, Key: "a", Cell: odd}})
}

// P11.1: Read, by hand: a drop of the Window at that stamp, at an earlier and at a later one, of another Window, more than one of one Window.
func TestReadOfDropped(t *testing.T) {
	s := of(entry(-1, "a", version(1, 4)), entry(0, "a", version(1, 5)), entry(2, "a", version(1, 6)), entry(2, "b", version(3, 7)))
	first, zero, a, b := item(-1, "a", 4), item(0, "a", 5), item(2, "a", 6), item(2, "b", 7)
	all, rest := []api.Item{first, zero, a, b}, []api.Item{first, zero}
	for _, x := range []struct {
		drops []api.Drop
		stamp int64
		want  []api.Item
	}{
		{[]api.Drop{drop(2, 6)}, 5, all},
		{[]api.Drop{drop(2, 6)}, 6, rest},
		{[]api.Drop{drop(2, 6)}, 7, rest},
		{[]api.Drop{drop(2, 6)}, top, rest},
		{[]api.Drop{drop(2, 2)}, 1, []api.Item{first, zero, a}},
		{[]api.Drop{drop(2, 2)}, 2, rest},
		{[]api.Drop{drop(2, end)}, end - 1, all},
		{[]api.Drop{drop(2, end)}, end, rest},
		// of another Window, also of one that no entry has
		{[]api.Drop{drop(0, 6)}, 6, []api.Item{first, a, b}},
		{[]api.Drop{drop(-1, 6)}, 6, []api.Item{zero, a, b}},
		{[]api.Drop{drop(1, 1), drop(3, 1), drop(-2, 1), drop(top, 1), drop(low, 1), drop(2+1<<32, 1), drop(6, 2)}, 6, all},
		{[]api.Drop{{}}, 6, []api.Item{first, a, b}},
		// more than one of one Window: any of them does, wherever it stands
		{[]api.Drop{drop(2, 9), drop(2, 6)}, 6, rest},
		{[]api.Drop{drop(2, 6), drop(2, 9)}, 6, rest},
		{[]api.Drop{drop(2, 9), drop(2, 7)}, 6, all},
		{[]api.Drop{drop(2, 6), drop(2, 6)}, 6, rest},
		{[]api.Drop{drop(0, 9), drop(2, 6)}, 6, rest},
		{[]api.Drop{drop(2, 9), drop(0, 6)}, 6, []api.Item{first, a, b}},
		{[]api.Drop{drop(2, 6), drop(0, 5), drop(-1, 4)}, 6, nil},
		{[]api.Drop{drop(2, 6), drop(0, 5), drop(-1, 4)}, 5, []api.Item{a, b}},
		// stamps that may not be
		{[]api.Drop{drop(2, 0)}, 3, rest},
		{[]api.Drop{drop(2, low)}, 3, rest},
		{[]api.Drop{drop(2, top)}, end, all},
		{[]api.Drop{drop(2, top)}, top, rest},
		{[]api.Drop{drop(2, low)}, low, nil},
	} {
		checkRead(t, s, x.stamp, x.drops, x.want)
	}
}

// P11.1: Read of entries that are not in order: as they stand, also two alike, and such as have no versions, or versions in no order.
func TestReadNotInOrder(t *testing.T) {
	s := of(entry(2, "b", version(1, 1)), entry(1, "b", version(1, 2)), entry(1, "a", version(1, 3)), entry(3, "a"), entry(2, "b", version(1, 4)), entry(1, "c", version(9, 5), version(2, 6), version(4, 7), version(3, 8)))
	checkRead(t, s, 1, nil, []api.Item{item(2, "b", 1), item(1, "b", 2), item(1, "a", 3), item(2, "b", 4)})
	checkRead(t, s, 2, nil, []api.Item{item(2, "b", 1), item(1, "b", 2), item(1, "a", 3), item(2, "b", 4), item(1, "c", 6)})
	checkRead(t, s, 3, []api.Drop{drop(2, 3)}, []api.Item{item(1, "b", 2), item(1, "a", 3), item(1, "c", 8)})
	checkRead(t, s, 9, []api.Drop{drop(1, 3)}, []api.Item{item(2, "b", 1), item(2, "b", 4)})
	checkRead(t, of(entry(1, "a", version(0, 5), version(-3, 6))), -1, nil, []api.Item{item(1, "a", 6)})
	checkRead(t, of(entry(1, "a", version(top, 5))), top, nil, []api.Item{item(1, "a", 5)})
}

// P11.1: Prune, by hand: a floor ahead of all, at one, between two, behind all.
func TestPrune(t *testing.T) {
	for _, floor := range []int64{low, 0, 1, end, top} {
		checkPrune(t, of(), floor, nil, of())
		checkPrune(t, of(), floor, []api.Drop{drop(0, 0)}, of())
	}
	v := at(1, "b", 2, 5, 9).Versions
	w := at(2, "a", 4, end).Versions
	for _, x := range []struct {
		floors []int64
		v, w   []api.Version
	}{
		{[]int64{low, -1, 0, 1, 2, 3, 4}, v, w},
		{[]int64{5, 6, 8}, v[1:], w},
		{[]int64{9, 10, 1 << 33, end - 1}, v[2:], w},
		{[]int64{end, end + 1, top}, v[2:], w[1:]},
	} {
		for _, floor := range x.floors {
			checkPrune(t, of(entry(1, "b", v...), entry(2, "a", w...)), floor, nil, of(entry(1, "b", x.v...), entry(2, "a", x.w...)))
			checkPrune(t, of(entry(1, "b", v...)), floor, nil, of(entry(1, "b", x.v...)))
		}
	}
}

// P11.1: Prune, by hand: a drop at the floor, ahead of it, at a later stamp, of another Window, more than one of one Window.
func TestPruneOfDropped(t *testing.T) {
	zero, a, b := at(0, "a", 2, 5), at(2, "a", 4), at(2, "b", 3, 5, 9)
	less, fewer := at(0, "a", 2, 5), at(2, "b", 3, 5, 9)
	less.Versions, fewer.Versions = less.Versions[1:], fewer.Versions[1:]
	all, rest := of(less, a, fewer), of(less)
	for _, x := range []struct {
		drops []api.Drop
		floor int64
		want  api.Shard
	}{
		{[]api.Drop{drop(2, 6)}, 5, all},
		{[]api.Drop{drop(2, 6)}, 6, rest},
		{[]api.Drop{drop(2, 6)}, 7, rest},
		{[]api.Drop{drop(2, 1)}, 1, of(zero)},
		{[]api.Drop{drop(2, 2)}, 1, of(zero, a, b)},
		{[]api.Drop{drop(0, 6)}, 6, of(a, fewer)},
		{[]api.Drop{drop(1, 1), drop(3, 1), drop(-2, 1), drop(2+1<<32, 1), drop(6, 2)}, 6, all},
		{[]api.Drop{{}}, 6, of(a, fewer)},
		{[]api.Drop{drop(2, 9), drop(2, 6)}, 6, rest},
		{[]api.Drop{drop(2, 6), drop(2, 9)}, 6, rest},
		{[]api.Drop{drop(2, 9), drop(2, 7)}, 6, all},
		{[]api.Drop{drop(0, 9), drop(2, 6)}, 6, rest},
		{[]api.Drop{drop(2, 6), drop(0, 6)}, 6, of()},
		{[]api.Drop{drop(2, low)}, low, of(zero)},
		{[]api.Drop{drop(2, top)}, 6, all},
	} {
		checkPrune(t, of(zero, a, b), x.floor, x.drops, x.want)
	}
}

// P11.1: Prune of entries without versions, of entries and versions in no order, of two alike, of cells that are empty: as they stand.
func TestPruneOfAny(t *testing.T) {
	checkPrune(t, of(entry(1, "a")), 9, nil, of(entry(1, "a")))
	checkPrune(t, of(entry(1, "a"), at(1, "b", 2, 5), entry(2, "")), 9, nil, of(entry(1, "a"), entry(1, "b", version(5, 5, 1, 1)), entry(2, "")))
	checkPrune(t, of(entry(1, "a"), at(1, "b", 2, 5), entry(2, "")), 9, []api.Drop{drop(1, 9)}, of(entry(2, "")))
	checkPrune(t, of(api.Entry{Versions: []api.Version{}}), low, nil, of(api.Entry{}))
	s := of(entry(2, "b", version(9, 1), version(5, 2), version(2, 3)), entry(1, "b", version(5, 4), version(5, 5)), entry(2, "b", version(1, 6), version(7, 7)), entry(2, "a", counted(3, 0), counted(4, -1)))
	checkPrune(t, s, 0, nil, s)
	checkPrune(t, s, 5, nil, of(entry(2, "b", version(9, 1), version(2, 3)), entry(1, "b", version(5, 5)), entry(2, "b", version(1, 6), version(7, 7)), entry(2, "a", counted(4, -1))))
	checkPrune(t, s, 9, nil, of(entry(2, "b", version(2, 3)), entry(1, "b", version(5, 5)), entry(2, "b", version(7, 7)), entry(2, "a", counted(4, -1))))
	checkPrune(t, s, 9, []api.Drop{drop(2, 3)}, of(entry(1, "b", version(5, 5))))
	checkPrune(t, of(at(1, "a", low, 0, top)), -1, nil, of(at(1, "a", low, 0, top)))
	checkPrune(t, of(at(1, "a", low, 0, top)), top, nil, of(entry(1, "a", version(top, top, 2, 1))))
}

// P11.1: Size, by hand.
func TestSize(t *testing.T) {
	checkSize(t, of(), 0)
	checkSize(t, of(entry(1, "a")), 0)
	checkSize(t, of(entry(1, "a"), entry(1, "b"), entry(0, "")), 0)
	checkSize(t, of(at(1, "a", 1)), 1)
	checkSize(t, of(at(1, "a", 2, 5, 9)), 3)
	checkSize(t, of(at(1, "a", 2, 5, 9), at(2, "a", 1), at(2, "b", 7, 8)), 6)
	checkSize(t, of(at(1, "a", 2, 5), entry(1, "b"), at(0, "", 1), entry(3, "c")), 3)
	checkSize(t, of(at(1, "a", 5, 2, 2), at(1, "a", 0), entry(1, "b", counted(3, 0), counted(4, -1), api.Version{})), 7)
	if Size(api.Shard{Entries: []api.Entry{}}) != 0 || Size(of(api.Entry{Versions: []api.Version{}})) != 0 {
		t.Error("empty lists have a size")
	}
}

// P11.1: Same, of each two of these: they differ in one part alone, in how many they are, in their order.
func TestSame(t *testing.T) {
	v, w := counted(3, 2), counted(9, 4)
	changed := func(change func(v *api.Version)) api.Shard {
		other := w
		change(&other)
		return of(at(0, "b", 1), entry(1, "a", v, other))
	}
	several := []api.Shard{
		of(), of(api.Entry{}), of(api.Entry{}, api.Entry{}),
		of(entry(1, "a", v, w)), of(at(0, "b", 1)), of(at(0, "b", 1), entry(1, "a", v, w)), of(entry(1, "a", v, w), at(0, "b", 1)), of(at(0, "b", 1), entry(1, "a", v, w), entry(1, "a", v, w)), of(at(0, "b", 1), at(0, "b", 1), entry(1, "a", v, w)), of(at(0, "b", 1), entry(1, "a", v, w), api.Entry{}), of(api.Entry{}, at(0, "b", 1), entry(1, "a", v, w)),
		of(at(0, "b", 1), entry(2, "a", v, w)), of(at(0, "b", 1), entry(-1, "a", v, w)), of(at(0, "b", 1), entry(1+1<<32, "a", v, w)), of(at(2, "b", 1), entry(1, "a", v, w)),
		of(at(0, "b", 1), entry(1, "b", v, w)), of(at(0, "b", 1), entry(1, "", v, w)), of(at(0, "b", 1), entry(1, "A", v, w)), of(at(0, "b", 1), entry(1, "a\x00", v, w)), of(at(0, "b", 1), entry(1, "aa", v, w)), of(at(0, "c", 1), entry(1, "a", v, w)), of(at(0, "a", 1), entry(1, "b", v, w)),
		of(at(0, "b", 1), entry(1, "a")), of(at(0, "b", 1), entry(1, "a", v)), of(at(0, "b", 1), entry(1, "a", w)), of(at(0, "b", 1), entry(1, "a", w, v)), of(at(0, "b", 1), entry(1, "a", v, v)), of(at(0, "b", 1), entry(1, "a", v, w, w)), of(at(0, "b", 1), entry(1, "a", v, w, api.Version{})), of(entry(0, "b"), entry(1, "a", v, w)),
		changed(func(v *api.Version) { v.Stamp++ }), changed(func(v *api.Version) { v.Stamp += 1 << 32 }), changed(func(v *api.Version) { v.Stamp = -v.Stamp }),
		changed(func(v *api.Version) { v.Cell.Count++ }), changed(func(v *api.Version) { v.Cell.Sum.N++ }), changed(func(v *api.Version) { v.Cell.Sum.Over = true }), changed(func(v *api.Version) { v.Cell.Min++ }), changed(func(v *api.Version) { v.Cell.Max++ }),
		changed(func(v *api.Version) { v.Cell = api.Cell{} }),
	}
	for i, x := range several {
		for j, y := range several {
			a, b := watch(x), watch(y)
			if got := Same(a.Shard, b.Shard); got != (i == j) {
				t.Errorf("Same(%v, %v) = %v", x, y, got)
			}
			a.check(t)
			b.check(t)
		}
	}
}

// P11.1: Same: lists that hold nothing are nil or empty.
func TestSameOfNone(t *testing.T) {
	some := at(1, "a", 2, 5)
	for _, x := range [][]api.Entry{nil, {}, of(some).Entries[:0]} {
		for _, y := range [][]api.Entry{nil, {}, of(some).Entries[:0]} {
			if !Same(api.Shard{Entries: x}, api.Shard{Entries: y}) {
				t.Errorf("Same(%#v, %#v) = false", x, y)
			}
		}
	}
	for _, x := range [][]api.Version{nil, {}, some.Versions[:0]} {
		for _, y := range [][]api.Version{nil, {}, some.Versions[:0]} {
			if !Same(of(some, entry(2, "b", x...)), of(some, entry(2, "b", y...))) {
				t.Errorf("Same of entries of %#v and %#v = false", x, y)
			}
		}
	}
	if s := of(some, some); !Same(s, s) || Same(s, of(some)) || Same(of(some), s) || Same(s, of()) {
		t.Error("Same of a shard and a piece of it")
	}
}

// someEntries are in order in some lists only, or in none; of each of the lists of these there are few enough.
func someEntries() []api.Entry {
	return []api.Entry{
		at(1, "a", 2, 4), at(1, "b", 3), at(2, "a", 1, 2, 3), at(2, "b", end), at(-1, "b", 1, 4),
		entry(2, "", counted(2, 0), counted(3, 1)), entry(1, "a"), at(2, "a", 3, 1), at(0, "a", 0), at(1, "b", 2, end+1),
	}
}

// someStamps are at, ahead of, between and behind theirs.
func someStamps() []int64 { return []int64{low, 0, 1, 2, 3, 4, 5, end, end + 1, top} }

// P11.1: all short lists of some entries, in order and not, with all short lists of some drops.
func TestAllShort(t *testing.T) {
	writes := []api.Write{}
	for _, window := range []int64{-1, 0, 1, 2} {
		for _, key := range []string{"", "a", "b"} {
			for _, stamp := range []int64{0, 2, 3, end, end + 1} {
				writes = append(writes, write(stamp, window, key, -5))
			}
		}
	}
	drops := [][]api.Drop{}
	lists.EachShort([]api.Drop{drop(1, 3), drop(2, 2), drop(1, 2), drop(3, 0)}, 2, func(l []api.Drop) { drops = append(drops, l) })
	lists.EachShort(someEntries(), 3, func(l []api.Entry) {
		s := of(l...)
		checkRight(t, s, wantRight(s))
		for _, w := range writes {
			want, e := wantApply(s, w)
			checkApply(t, s, w, want, e)
		}
		for i, stamp := range someStamps() {
			d := drops[i%len(drops)] // with the loop below each stamp meets each list of drops in some shards
			checkRead(t, s, stamp, d, wantRead(s, stamp, d))
			checkPrune(t, s, stamp, d, wantPrune(s, stamp, d))
		}
		for i, d := range drops {
			stamp := someStamps()[(i+len(l))%len(someStamps())]
			checkRead(t, s, stamp, d, wantRead(s, stamp, d))
			checkPrune(t, s, stamp, d, wantPrune(s, stamp, d))
		}
	})
}

// eachInOrder hands to call all shards in order that some writes make, one behind the other.
func eachInOrder(t *testing.T, writes []api.Write, call func(s api.Shard)) {
	lists.EachShort(writes, 4, func(l []api.Write) {
		if s, ok := written(l); ok {
			call(s)
		}
	})
}

// written is a shard of writes; false, if one of them isn't taken.
func written(l []api.Write) (api.Shard, bool) {
	s := api.Shard{}
	for _, w := range l {
		next, e := Apply(s, w)
		if e != api.OK {
			return api.Shard{}, false
		}
		s = next
	}
	return s, true
}

// someWrites are of two windows and two keys, at stamps with gaps between.
func someWrites() []api.Write {
	return []api.Write{write(1, 1, "a", 5), write(3, 1, "a", -2), write(5, 1, "a", 9), write(2, 1, "b", 0), write(5, 1, "b", top), write(1, 2, "a", 1), write(3, 2, "a", 7), write(end, 2, "b", low)}
}

// P11.2: pruned at a floor, a shard in order is in order, and read from it on as it was; pruned once more, it is as pruned at the greater floor alone.
func TestWhatIsReadStays(t *testing.T) {
	drops := [][]api.Drop{nil, {drop(1, 2)}, {drop(2, 3)}, {drop(1, 4), drop(2, 5)}, {drop(2, 4), drop(1, 3), drop(2, 2)}, {drop(3, 1), drop(1, end)}}
	count := 0
	eachInOrder(t, someWrites(), func(s api.Shard) {
		count++
		for _, d := range drops {
			for _, floor := range someStamps() {
				pruned := Prune(s, floor, d...)
				if !Right(pruned) {
					t.Errorf("%v, pruned at %d with %v: %v", s, floor, d, pruned)
				}
				for _, stamp := range someStamps() {
					if stamp >= floor && !slices.Equal(Read(pruned, stamp, d...), Read(s, stamp, d...)) {
						t.Errorf("%v, pruned at %d with %v: at %d %v", s, floor, d, stamp, Read(pruned, stamp, d...))
					}
					again, alone := Prune(pruned, stamp, d...), Prune(s, max(floor, stamp), d...)
					if !equal(again.Entries, alone.Entries) || !Same(again, alone) {
						t.Errorf("%v, pruned at %d and %d with %v: %v, want %v", s, floor, stamp, d, again, alone)
					}
				}
			}
		}
	})
	if count < 200 {
		t.Errorf("only %d are in order", count)
	}
}

// P11.2: what is collected can't be read any more, so that no more is kept than must be: of each entry one version at most is up to the floor.
func TestWhatNobodyReadsGoes(t *testing.T) {
	eachInOrder(t, someWrites(), func(s api.Shard) {
		for _, floor := range someStamps() {
			for _, one := range Prune(s, floor, drop(2, 3)).Entries {
				n := 0
				for _, v := range one.Versions {
					if v.Stamp <= floor {
						n++
					}
				}
				if n > 1 || one.Window == 2 && floor >= 3 {
					t.Errorf("%v, pruned at %d, has %v still", s, floor, one)
				}
			}
		}
	})
}

// P11.3: what is applied is read from its stamp on, together with what was there; ahead of it, and of all others, what was; and there is one version more.
func TestWrite(t *testing.T) {
	writes := []api.Write{write(2, 1, "a", 6), write(4, 1, "a", 6), write(6, 1, "b", -6), write(6, 2, "a", -6), write(6, 2, "b", 0), write(6, 0, "z", 6), write(end, 3, "", 6), write(4, 1, "ab", 6)}
	d := drop(2, 7)
	eachInOrder(t, someWrites(), func(s api.Shard) {
		for _, w := range writes {
			next, e := Apply(s, w)
			if e != api.OK {
				continue // what is refused, and what is not, other tests hold
			}
			if Size(next) != Size(s)+1 || !Right(next) {
				t.Errorf("%v with %v: %v", s, w, next)
			}
			for _, stamp := range someStamps() {
				checkWritten(t, Read(s, stamp), Read(next, stamp), w, stamp)
				if stamp < d.Stamp || w.Window != d.Window {
					checkWritten(t, Read(s, stamp, d), Read(next, stamp, d), w, stamp)
				} else if !slices.Equal(Read(s, stamp, d), Read(next, stamp, d)) {
					t.Errorf("%v with %v: at %d %v, though it is dropped", s, w, stamp, Read(next, stamp, d))
				}
			}
		}
	})
}

// checkWritten: is what is read at a stamp behind a write what was read ahead of it, with the sample, if it is up to the stamp?
func checkWritten(t *testing.T, was, is []api.Item, w api.Write, stamp int64) {
	t.Helper()
	cells := map[api.Item]api.Cell{}
	for _, one := range was {
		cells[api.Item{Window: one.Window, Key: one.Key}] = one.Cell
	}
	if here := (api.Item{Window: w.Window, Key: w.Key}); stamp >= w.Stamp {
		cells[here] = cell.Fold(cells[here], w.Value)
	}
	if len(is) != len(cells) {
		t.Errorf("at %d %v with %v: %v", stamp, was, w, is)
	}
	for _, one := range is {
		if c, found := cells[api.Item{Window: one.Window, Key: one.Key}]; !found || c != one.Cell {
			t.Errorf("at %d %v with %v: %v", stamp, was, w, is)
		}
	}
}

// P11.3: a write behind a cell that is empty, that is full, that ran over, by hand.
func TestWriteToAnyCell(t *testing.T) {
	for _, x := range []struct {
		was  api.Version
		want api.Cell
	}{
		{counted(2, 0), cell.Of(4)},
		{counted(2, -9), cell.Of(4)},
		{counted(2, top), api.Cell{Count: top, Sum: api.Sum{N: 11}, Min: -3, Max: 9}},
		{version(2, top, 1), api.Cell{Count: 3, Sum: api.Sum{N: top, Over: true}, Min: 1, Max: top}},
	} {
		s, e := Apply(of(entry(1, "a", x.was)), write(3, 1, "a", 4))
		if got := Read(s, 3); e != api.OK || Size(s) != 2 || len(got) != 1 || got[0].Cell != x.want {
			t.Errorf("behind %v: %v, %d", x.was, got, e)
		}
	}
}

// P11.1, P11.3: the chapter's example.
func TestExample(t *testing.T) {
	s, ok := written([]api.Write{write(1, 0, "cpu", 3), write(2, 0, "cpu", 4)})
	if got := Read(s, 2); !ok || len(got) != 1 || got[0].Cell.Sum != (api.Sum{N: 7}) {
		t.Errorf("read are %v", got)
	}
}

// P11.2, P11.3: all short lists of samples of some series and windows, at stamps that rise, pruned meanwhile, or not, and held against all samples up to each stamp.
func TestOneByOne(t *testing.T) {
	places := []api.Write{write(0, 1, "a", 3), write(0, 1, "b", -2), write(0, 2, "a", top), write(0, 2, "", 0)}
	lists.EachShort(places, 5, func(l []api.Write) {
		for gap := range int64(3) {
			checkOneByOne(t, l, gap+1, func(int64) int64 { return low })
			checkOneByOne(t, l, gap+1, func(stamp int64) int64 { return stamp })
			checkOneByOne(t, l, gap+1, func(stamp int64) int64 { return stamp - 2 })
		}
	})
}

// checkOneByOne applies writes at every gap'th stamp, prunes at the floor of each, and holds each stamp from the last floor on against all samples up to it.
func checkOneByOne(t *testing.T, l []api.Write, gap int64, floor func(stamp int64) int64) {
	t.Helper()
	s, from := api.Shard{}, int64(low)
	for i, w := range l {
		w.Stamp = gap * int64(i+1)
		next, e := Apply(s, w)
		if e != api.OK || Size(next) != Size(s)+1 {
			t.Fatalf("Apply(%v, %v) = %v, %d", s, w, next, e)
		}
		from = floor(w.Stamp)
		s = Prune(next, from)
	}
	for stamp := max(from, -1); stamp <= gap*int64(len(l)+1); stamp++ {
		n := min(max(stamp, 0)/gap, int64(len(l)))
		if got, want := Read(s, stamp), itemsOf(l[:n]); !slices.Equal(got, want) {
			t.Errorf("%v, every %d, pruned at %d: at %d %v, want %v", l, gap, from, stamp, got, want)
		}
	}
}

// itemsOf are what all of l make, by their windows and keys.
func itemsOf(l []api.Write) []api.Item {
	samples := map[api.Item][]int64{}
	for _, w := range l {
		here := api.Item{Window: w.Window, Key: w.Key}
		samples[here] = append(samples[here], w.Value)
	}
	items := []api.Item{}
	for here, some := range samples {
		items = append(items, item(here.Window, here.Key, some...))
	}
	slices.SortFunc(items, func(a, b api.Item) int {
		if wantAhead(entry(a.Window, a.Key), entry(b.Window, b.Key)) {
			return -1
		}
		return 1
	})
	return items
}

// P11.1, P11.3: in whatever order some entries are made, they stand in one order.
func TestInWhateverOrder(t *testing.T) {
	places := []api.Write{write(1, low, "b", 1), write(2, -1, "", 2), write(3, 0, "a", 3), write(4, 0, "a\x00", 4), write(5, 0, "\xff", 5), write(6, top, "B", 6)}
	want := api.Shard{}
	for _, w := range places {
		want.Entries = append(want.Entries, entry(w.Window, w.Key, version(w.Stamp, w.Value)))
	}
	lists.EachOrder(places, func(l []api.Write) {
		if s, ok := written(l); !ok || !equal(s.Entries, want.Entries) || !Same(s, want) {
			t.Errorf("%v make %v", l, s)
		}
	})
}

// P11.1, P11.2, P11.3: many writes.
func TestMany(t *testing.T) {
	s, all := api.Shard{}, []api.Write{}
	for i := range int64(600) {
		w := write(2*i+1, i*i%13, string(rune('a'+i*7%11)), i%97-40)
		next, e := Apply(s, w)
		if e != api.OK {
			t.Fatalf("%v: %d", w, e)
		}
		s, all = next, append(all, w)
	}
	if !Right(s) || Size(s) != 600 || !Same(s, wantPrune(s, low, nil)) {
		t.Errorf("%d versions", Size(s))
	}
	for i := range all {
		stamp := int64(2*i + 1)
		if want := itemsOf(all[:i+1]); !slices.Equal(Read(s, stamp), want) || !slices.Equal(Read(s, stamp+1), want) {
			t.Errorf("at %d: %v, want %v", stamp, Read(s, stamp), want)
		}
		if pruned := Prune(s, stamp); !slices.Equal(Read(pruned, stamp), itemsOf(all[:i+1])) || Size(pruned) != 600-i-1+len(itemsOf(all[:i+1])) {
			t.Errorf("pruned at %d: %d are left", stamp, Size(pruned))
		}
	}
	checkApply(t, s, write(1200, 5, "x", 1), wantOf(t, s, write(1200, 5, "x", 1)), api.OK)
	checkPrune(t, s, 600, []api.Drop{drop(4, 600), drop(0, 601)}, wantPrune(s, 600, []api.Drop{drop(4, 600)}))
	checkRead(t, s, 600, []api.Drop{drop(4, 600), drop(0, 601)}, wantRead(s, 600, []api.Drop{drop(4, 600)}))
}

// wantOf is what Apply must answer, where it is no error.
func wantOf(t *testing.T, s api.Shard, w api.Write) api.Shard {
	t.Helper()
	want, e := wantApply(s, w)
	if e != api.OK {
		t.Fatalf("%v: %d", w, e)
	}
	return want
}

// P11.1: a call hangs on its arguments alone: who writes into an answer changes no later one.
func TestNothingIsKept(t *testing.T) {
	for range 3 {
		one, e := Apply(api.Shard{}, write(1, 2, "b", 5))
		if e != api.OK || !equal(one.Entries, of(entry(2, "b", version(1, 5))).Entries) {
			t.Fatalf("applied are %v, %d", one, e)
		}
		two, e := Apply(one, write(2, 2, "b", 6))
		if e != api.OK || !equal(two.Entries, of(entry(2, "b", version(1, 5), version(2, 5, 6))).Entries) {
			t.Fatalf("applied are %v, %d", two, e)
		}
		pruned := Prune(two, 2)
		if !equal(pruned.Entries, of(entry(2, "b", version(2, 5, 6))).Entries) {
			t.Fatalf("pruned are %v", pruned)
		}
		read := Read(two, 2)
		if !slices.Equal(read, []api.Item{item(2, "b", 5, 6)}) {
			t.Fatalf("read are %v", read)
		}
		clear(read[:cap(read)])
		spoil(t, pruned)
		if chain.Last(two.Entries[0].Versions) != 2 || Size(two) != 2 {
			t.Fatalf("two became %v", two)
		}
		spoil(t, two)
		if !equal(one.Entries, of(entry(2, "b", version(1, 5))).Entries) {
			t.Fatalf("one became %v", one)
		}
		spoil(t, one)
	}
}
