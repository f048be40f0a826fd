package scan

import (
	"math"
	"reflect"
	"slices"
	"strings"
	"testing"

	"ebbtide/api"
	"ebbtide/cell"
	"ebbtide/lists"
	"ebbtide/query"
	"ebbtide/row"
	"ebbtide/shard"
)

const (
	top    = math.MaxInt64
	low    = math.MinInt64
	topInt = math.MaxInt
	lowInt = math.MinInt
)

// ask is the query of a text.
func ask(text string) api.Query {
	q, e := query.Parse(text)
	if e != api.OK {
		panic(text + " is no query")
	}
	return q
}

// version is one of a stamp and samples.
func version(stamp int64, samples ...int64) api.Version {
	return api.Version{Stamp: stamp, Cell: cell.Of(samples...)}
}

// entry is a window's and a key's versions.
func entry(window int64, key string, l ...api.Version) api.Entry {
	return api.Entry{Window: window, Key: key, Versions: l}
}

// of is a shard of entries.
func of(l ...api.Entry) api.Shard { return api.Shard{Entries: l} }

// item is a window's and a key's, with samples.
func item(window int64, key string, samples ...int64) api.Item {
	return api.Item{Window: window, Key: key, Cell: cell.Of(samples...)}
}

// drop is a window's, from a stamp on.
func drop(window, stamp int64) api.Drop { return api.Drop{Window: window, Stamp: stamp} }

// write is a sample that was accepted.
func write(stamp, window int64, key string, value int64) api.Write {
	return api.Write{Stamp: stamp, Window: window, Key: key, Value: value}
}

// two is shards in order, with samples at the stamps 1 to 6: no Key is in both.
func two() []api.Shard {
	return []api.Shard{
		of(entry(1, "cpu{a=1}", version(1, 3), version(5, 3, 40)), entry(2, "cpu{a=1}", version(3, 5)), entry(2, "mem", version(6, 9))),
		of(entry(1, "cpu{a=2}", version(2, 4), version(4, 4, 6))),
	}
}

// room is l with some more behind its end.
func room[T any](l []T, more ...T) []T {
	return slices.Concat(l, more)[: len(l) : len(l)+len(more)]
}

// full is l with what is behind its end.
func full[T any](l []T) []T { return l[:cap(l)] }

// roomyQuery is q with room behind its lists, all of it not empty.
func roomyQuery(q api.Query) api.Query {
	q.Match = room(q.Match, api.Match{Kind: 1, Name: "spare", Value: "7"}, api.Match{Kind: 2, Name: "s", Value: "8"})
	q.By = room(q.By, "spare", "more")
	return q
}

// roomyScan is s so.
func roomyScan(s api.Scan) api.Scan {
	s.Query = roomyQuery(s.Query)
	s.Items = room(s.Items, item(9, "spare", 7), item(8, "more", 1), item(7, "more", 1), item(6, "more", 1))
	return s
}

// roomyShards is l so, and its entries, and their versions.
func roomyShards(l []api.Shard) []api.Shard {
	var roomy []api.Shard
	for _, s := range slices.Concat(l, []api.Shard{of(entry(-1, "spare", version(1, 1)))}) {
		var entries []api.Entry
		for _, one := range slices.Concat(s.Entries, []api.Entry{entry(3, "spare", version(5, 5)), entry(-8, "more")}) {
			one.Versions = room(one.Versions, version(88, 8), version(2, 9))
			entries = append(entries, one)
		}
		roomy = append(roomy, api.Shard{Entries: entries[:len(s.Entries)]})
	}
	return roomy[:len(l)]
}

// wholeQuery is a copy of q, and of what is behind its lists.
func wholeQuery(q api.Query) api.Query {
	q.Match, q.By = slices.Clone(full(q.Match)), slices.Clone(full(q.By))
	return q
}

// wholeScan is such a copy of s.
func wholeScan(s api.Scan) api.Scan {
	s.Query, s.Items = wholeQuery(s.Query), slices.Clone(full(s.Items))
	return s
}

// wholeShards is such a copy of l.
func wholeShards(l []api.Shard) []api.Shard {
	whole := slices.Clone(full(l))
	for i, s := range whole {
		whole[i].Entries = slices.Clone(full(s.Entries))
		for j, one := range whole[i].Entries {
			whole[i].Entries[j].Versions = slices.Clone(full(one.Versions))
		}
	}
	return whole
}

// watched is what is handed in, with spare room wherever there may be some, and what all of that was.
type watched struct {
	scan   api.Scan
	shards []api.Shard
	drops  []api.Drop
	was    []any
}

// watch makes one.
func watch(s api.Scan, l []api.Shard, drops []api.Drop) watched {
	w := watched{scan: roomyScan(s), shards: roomyShards(l), drops: room(drops, drop(1, 0), drop(2, low), drop(0, 0))}
	w.was = w.is()
	return w
}

// is copies all of it as it is.
func (w watched) is() []any {
	return []any{wholeScan(w.scan), wholeShards(w.shards), slices.Clone(full(w.drops))}
}

// check: is all of it as it was?
func (w watched) check(t *testing.T) {
	t.Helper()
	if got := w.is(); !reflect.DeepEqual(got, w.was) {
		t.Errorf("%v became %v", w.was, got)
	}
}

// spoilQuery writes into all of a query's lists.
func spoilQuery(q api.Query) {
	for i := range full(q.Match) {
		full(q.Match)[i] = api.Match{Kind: -7, Name: "spoiled", Value: "spoiled"}
	}
	for i := range full(q.By) {
		full(q.By)[i] = "spoiled"
	}
}

// spoil writes into all of a scan's lists.
func spoil(s api.Scan) {
	spoilQuery(s.Query)
	for i := range full(s.Items) {
		full(s.Items)[i] = item(-77, "spoiled", 7)
	}
}

// spoilShards writes into all of them.
func spoilShards(l []api.Shard) {
	for i := range full(l) {
		for j := range full(full(l)[i].Entries) {
			one := &full(full(l)[i].Entries)[j]
			for k := range full(one.Versions) {
				full(one.Versions)[k] = version(-77, 7)
			}
			*one = entry(-77, "spoiled")
		}
		full(l)[i] = api.Shard{}
	}
}

// sameQuery: the same query, part by part?
func sameQuery(a, b api.Query) bool {
	return a.Agg == b.Agg && a.Name == b.Name && slices.Equal(a.Match, b.Match) && slices.Equal(a.By, b.By)
}

// same: the same scan, part by part?
func same(a, b api.Scan) bool {
	return a.Id == b.Id && a.Stamp == b.Stamp && a.Next == b.Next && sameQuery(a.Query, b.Query) && slices.Equal(a.Items, b.Items)
}

// wantDropped: is a window, at a stamp?
func wantDropped(window, stamp int64, drops []api.Drop) bool {
	for _, d := range drops {
		if d.Window == window && stamp >= d.Stamp {
			return true
		}
	}
	return false
}

// wantRead is what a shard must tell: of each entry that isn't dropped the last cell that isn't above the stamp, if it has samples.
func wantRead(s api.Shard, stamp int64, drops []api.Drop) []api.Item {
	var items []api.Item
	for _, one := range s.Entries {
		found := api.Cell{}
		for _, v := range one.Versions {
			if v.Stamp <= stamp {
				found = v.Cell
			}
		}
		if found.Count > 0 && !wantDropped(one.Window, stamp, drops) {
			items = append(items, api.Item{Window: one.Window, Key: one.Key, Cell: found})
		}
	}
	return items
}

// wantStep is what Step must answer: the shard whose number is Next is looked for one by one.
func wantStep(s api.Scan, shards []api.Shard, drops []api.Drop) api.Scan {
	next := s
	next.Items = slices.Clone(s.Items)
	for n, one := range shards {
		if n == s.Next {
			next.Items = append(next.Items, wantRead(one, s.Stamp, drops)...)
			next.Next = n + 1
		}
	}
	return next
}

// wantAll is what All must answer: over what all shards tell, one behind the other.
func wantAll(q api.Query, stamp int64, drops []api.Drop, shards []api.Shard) []api.Row {
	var items []api.Item
	for _, one := range shards {
		items = append(items, wantRead(one, stamp, drops)...)
	}
	return row.Answer(q, items...)
}

// checkStart holds Start against what is wanted, and its query against what it was, also when the answer is written into.
func checkStart(t *testing.T, id int, q api.Query, stamp int64) {
	t.Helper()
	handed := roomyQuery(q)
	was := wholeQuery(handed)
	got := Start(id, handed, stamp)
	if want := (api.Scan{Id: id, Query: q, Stamp: stamp}); !same(got, want) {
		t.Errorf("Start(%d, %v, %d) = %v", id, q, stamp, got)
	}
	spoil(got)
	if now := wholeQuery(handed); !reflect.DeepEqual(now, was) {
		t.Errorf("%v became %v", was, now)
	}
}

// checkStep holds Step so.
func checkStep(t *testing.T, s api.Scan, shards []api.Shard, drops []api.Drop, want api.Scan) {
	t.Helper()
	w := watch(s, shards, drops)
	got := Step(w.scan, w.shards, w.drops...)
	if !same(got, want) {
		t.Errorf("Step(%v, %v, %v) = %v, want %v", s, shards, drops, got, want)
	}
	if by := wantStep(s, shards, drops); !same(by, want) {
		t.Errorf("by other means a step of %v over %v with %v is %v, want %v", s, shards, drops, by, want)
	}
	w.check(t)
	spoil(got)
	w.check(t)
}

// checkDone holds Done so.
func checkDone(t *testing.T, s api.Scan, shards int, want bool) {
	t.Helper()
	w := watch(s, nil, nil)
	if got := Done(w.scan, shards); got != want {
		t.Errorf("Done(%v, %d) = %v", s, shards, got)
	}
	w.check(t)
}

// checkAnswer holds Answer so; the rows are told by their text.
func checkAnswer(t *testing.T, s api.Scan, rows string) {
	t.Helper()
	w := watch(s, nil, nil)
	got := Answer(w.scan)
	if got.Id != s.Id || got.Stamp != s.Stamp || row.Text(got.Rows) != rows {
		t.Errorf("Answer(%v) = %v, want the rows %s", s, got, rows)
	}
	clear(full(got.Rows))
	w.check(t)
}

// checkAll holds All so, and what Start, Step, Done and Answer make by hand.
func checkAll(t *testing.T, q api.Query, stamp int64, drops []api.Drop, shards []api.Shard, rows string) {
	t.Helper()
	w := watch(api.Scan{Query: q}, shards, drops)
	got := All(w.scan.Query, stamp, w.drops, w.shards...)
	if row.Text(got) != rows {
		t.Errorf("All(%v, %d, %v, %v) = %s, want %s", q, stamp, drops, shards, row.Text(got), rows)
	}
	clear(full(got))
	w.check(t)
	s := Start(-5, q, stamp)
	for n := range shards {
		if Done(s, len(shards)) {
			t.Errorf("%v is done behind %d of %d steps", s, n, len(shards))
		}
		s = Step(s, shards, drops...)
	}
	if !Done(s, len(shards)) {
		t.Errorf("%v is not done behind %d steps", s, len(shards))
	}
	if a := Answer(s); a.Id != -5 || a.Stamp != stamp || row.Text(a.Rows) != rows {
		t.Errorf("step by step %v at %d with %v of %v is %v, want %s", q, stamp, drops, shards, a, rows)
	}
}

// odd is queries that may not be.
func odd() []api.Query {
	return []api.Query{
		{}, {Agg: 0, Name: "cpu"}, {Agg: 5, Name: "cpu"}, {Agg: -1, Name: "cpu"}, {Agg: api.AggSum}, {Agg: api.AggSum, Name: "Not A Name"},
		{Agg: api.AggSum, Name: "cpu", By: []string{"a", "a"}}, {Agg: api.AggSum, Name: "cpu", Match: []api.Match{{Kind: 9, Name: "a", Value: "1"}}},
	}
}

// P16.1: Start: whatever the Id, the query and the stamp.
func TestStart(t *testing.T) {
	for _, q := range append(odd(), ask("sum cpu"), ask("min cpu{a=1} by a,b"), ask("count mem by a")) {
		for _, id := range []int{0, 1, 7, -1, topInt, lowInt} {
			for _, stamp := range []int64{0, 1, 9, -1, api.MaxStamp, api.MaxStamp + 1, top, low} {
				checkStart(t, id, q, stamp)
			}
		}
	}
}

// P16.1: Step, by hand: Next at 0, in between, at how many there are, beyond it, below 0.
func TestStepNext(t *testing.T) {
	q, l := ask("sum cpu"), two()
	there := []api.Item{item(7, "x", 1), {}}
	first := []api.Item{item(1, "cpu{a=1}", 3, 40), item(2, "cpu{a=1}", 5), item(2, "mem", 9)}
	second := []api.Item{item(1, "cpu{a=2}", 4, 6)}
	for _, x := range []struct {
		next int
		read []api.Item
	}{
		{0, first}, {1, second}, {2, nil}, {3, nil}, {7, nil}, {topInt, nil}, {topInt - 1, nil}, {-1, nil}, {-2, nil}, {lowInt, nil}, {lowInt + 1, nil},
	} {
		after := x.next
		if x.read != nil {
			after++
		}
		for _, items := range [][]api.Item{nil, {}, there, first} {
			s := api.Scan{Id: 4, Query: q, Stamp: 9, Next: x.next, Items: items}
			checkStep(t, s, l, nil, api.Scan{Id: 4, Query: q, Stamp: 9, Next: after, Items: slices.Concat(items, x.read)})
			checkStep(t, s, nil, nil, s)
			checkStep(t, s, []api.Shard{}, []api.Drop{drop(1, 1)}, s)
		}
	}
}

// P16.1: Step, by hand: stamps, drops, shards that aren't in order.
func TestStepReads(t *testing.T) {
	mixed := of(entry(2, "b", version(5, 1), version(3, 2), version(9, 4)), entry(1, "a"), entry(1, "", version(-4, 8)), entry(2, "b", version(1, 6)), entry(0, "a", api.Version{Stamp: 1}))
	l := []api.Shard{two()[0], of(), mixed, {Entries: []api.Entry{}}}
	for _, x := range []struct {
		next  int
		stamp int64
		drops []api.Drop
		want  []api.Item
	}{
		// stamps: 0, below it, the edges of a version, the greatest and the least
		{0, 0, nil, nil}, {0, -1, nil, nil}, {0, low, nil, nil}, {0, 1, nil, []api.Item{item(1, "cpu{a=1}", 3)}}, {0, 2, nil, []api.Item{item(1, "cpu{a=1}", 3)}},
		{0, 4, nil, []api.Item{item(1, "cpu{a=1}", 3), item(2, "cpu{a=1}", 5)}}, {0, 5, nil, []api.Item{item(1, "cpu{a=1}", 3, 40), item(2, "cpu{a=1}", 5)}},
		{0, top, nil, []api.Item{item(1, "cpu{a=1}", 3, 40), item(2, "cpu{a=1}", 5), item(2, "mem", 9)}},
		// drops: one that takes what is read, one of another window, one above the stamp, at it, two of one window
		{0, 9, []api.Drop{drop(1, 9)}, []api.Item{item(2, "cpu{a=1}", 5), item(2, "mem", 9)}}, {0, 9, []api.Drop{drop(1, 1), drop(3, 1)}, []api.Item{item(2, "cpu{a=1}", 5), item(2, "mem", 9)}},
		{0, 4, []api.Drop{drop(3, 1), drop(0, 0), drop(1, 5)}, []api.Item{item(1, "cpu{a=1}", 3), item(2, "cpu{a=1}", 5)}}, {0, 4, []api.Drop{drop(1, 10), drop(1, 4)}, []api.Item{item(2, "cpu{a=1}", 5)}},
		{0, top, []api.Drop{drop(2, low), drop(1, top)}, nil}, {0, 9, []api.Drop{drop(2, top), drop(1, 10)}, []api.Item{item(1, "cpu{a=1}", 3, 40), item(2, "cpu{a=1}", 5), item(2, "mem", 9)}},
		// without entries
		{1, 9, nil, nil}, {1, 9, []api.Drop{drop(1, 1)}, nil}, {3, 9, nil, nil}, {3, top, []api.Drop{drop(0, 0)}, nil},
		// not in order: entries as they stand, of each the last version that isn't above
		{2, 9, nil, []api.Item{item(2, "b", 4), item(1, "", 8), item(2, "b", 6)}}, {2, 8, nil, []api.Item{item(2, "b", 2), item(1, "", 8), item(2, "b", 6)}}, {2, 4, nil, []api.Item{item(2, "b", 2), item(1, "", 8), item(2, "b", 6)}},
		{2, 2, nil, []api.Item{item(1, "", 8), item(2, "b", 6)}}, {2, 0, nil, []api.Item{item(1, "", 8)}}, {2, -4, nil, []api.Item{item(1, "", 8)}}, {2, -5, nil, nil},
		{2, 9, []api.Drop{drop(2, 9)}, []api.Item{item(1, "", 8)}}, {2, 9, []api.Drop{drop(1, 9)}, []api.Item{item(2, "b", 4), item(2, "b", 6)}},
	} {
		for _, items := range [][]api.Item{nil, {item(8, "ahead", 1)}} {
			s := api.Scan{Id: -1, Query: ask("max cpu{a=1} by a"), Stamp: x.stamp, Next: x.next, Items: items}
			want := s
			want.Next, want.Items = x.next+1, slices.Concat(items, x.want)
			checkStep(t, s, l, x.drops, want)
		}
	}
}

// P16.1: Step, by hand: a query that may not be is gone on with, too.
func TestStepOdd(t *testing.T) {
	for _, q := range odd() {
		s := Step(Start(2, q, 1), two())
		if want := (api.Scan{Id: 2, Query: q, Stamp: 1, Next: 1, Items: []api.Item{item(1, "cpu{a=1}", 3)}}); !same(s, want) {
			t.Errorf("a step of %v is %v", q, s)
		}
	}
}

// P16.1: Done, by hand.
func TestDone(t *testing.T) {
	for _, x := range []struct {
		next, shards int
		want         bool
	}{
		{0, 0, true}, {0, 1, false}, {0, 2, false}, {1, 2, false}, {2, 2, true}, {3, 2, true}, {1, 1, true}, {1, 0, true}, {4, 4, true}, {3, 4, false},
		{-1, 0, false}, {-1, 1, false}, {-1, -1, true}, {-1, -2, true}, {-2, -1, false}, {0, -1, true}, {2, -2, true},
		{0, topInt, false}, {topInt, topInt, true}, {topInt - 1, topInt, false}, {topInt, topInt - 1, true}, {topInt, 0, true}, {topInt, lowInt, true},
		{lowInt, 0, false}, {lowInt, lowInt, true}, {lowInt, lowInt + 1, false}, {lowInt + 1, lowInt, true}, {lowInt, topInt, false}, {0, lowInt, true},
	} {
		checkDone(t, api.Scan{Next: x.next}, x.shards, x.want)
		// nothing else counts
		checkDone(t, api.Scan{Id: 9, Query: ask("sum cpu"), Stamp: 8, Next: x.next, Items: []api.Item{item(1, "cpu", 4), item(2, "cpu", 4)}}, x.shards, x.want)
	}
}

// P16.1: the chapter's example.
func TestDoneBehindTwo(t *testing.T) {
	s := Start(1, ask("sum cpu"), 3)
	for n := range 5 {
		checkDone(t, s, 2, n >= 2)
		s = Step(s, two())
	}
	if s.Next != 2 {
		t.Errorf("behind five steps over two shards Next is %d", s.Next)
	}
}

// P16.1: Answer, by hand.
func TestAnswer(t *testing.T) {
	items := []api.Item{
		item(2, "cpu{a=2}", 1), item(1, "cpu{a=2}", 4, 6), item(1, "cpu{a=1}", 3), item(1, "mem{a=1}", 100), // what fits, and what doesn't
		{Window: 1, Key: "cpu{a=3}"}, {Window: 1, Key: "cpu{a=3}", Cell: api.Cell{Sum: api.Sum{N: 9}}}, // empty
		item(1, "", 50), item(1, "cpu{", 50), item(1, "cpu{b=1,a=1}", 50), item(1, "cpu{}", 50), item(3, "CPU", 50), // no series' text
	}
	for _, x := range []struct {
		q     string
		items []api.Item
		want  string
	}{
		{"sum cpu", nil, "-"}, {"sum cpu by a", []api.Item{}, "-"}, {"count cpu", []api.Item{{}}, "-"},
		{"sum cpu", items, "1||13;2||1"}, {"count cpu", items, "1||3;2||1"}, {"min cpu", items, "1||3;2||1"}, {"max cpu", items, "1||6;2||1"},
		{"sum cpu by a", items, "1|a=1|3;1|a=2|10;2|a=2|1"}, {"sum cpu{a=2}", items, "1||10;2||1"}, {"sum cpu{a=2} by a", items[:2], "1|a=2|10;2|a=2|1"},
		{"sum cpu{a=7}", items, "-"}, {"sum disk", items, "-"}, {"sum mem", items, "1||100"}, {"sum cpu", items[4:], "-"}, {"sum cpu", items[3:6], "-"},
		// of one Key and window: as they stand
		{"sum cpu", []api.Item{item(1, "cpu", top), item(1, "cpu", -5), item(1, "cpu", 2)}, "1||9223372036854775804"},
		{"sum cpu", []api.Item{item(1, "cpu", top), item(1, "cpu", 2), item(1, "cpu", -5)}, "1||9223372036854775807!"},
	} {
		q := ask(x.q)
		checkAnswer(t, api.Scan{Query: q, Items: x.items}, x.want)
		for _, stamp := range []int64{5, 0, -1, top, low} {
			for _, next := range []int{0, 2, -1, topInt} { // neither the stamp nor Next counts: what is read is read
				checkAnswer(t, api.Scan{Id: int(stamp) + next, Query: q, Stamp: stamp, Next: next, Items: x.items}, x.want)
			}
		}
	}
	for _, q := range odd() {
		checkAnswer(t, api.Scan{Id: 3, Query: q, Stamp: 4, Items: items}, "-")
	}
}

// P16.1: All, by hand.
func TestAll(t *testing.T) {
	q, l := ask("sum cpu by a"), two()
	for _, x := range []struct {
		stamp  int64
		drops  []api.Drop
		shards []api.Shard
		want   string
	}{
		{9, nil, nil, "-"}, {9, []api.Drop{drop(1, 1)}, []api.Shard{}, "-"}, {9, nil, []api.Shard{{}}, "-"}, {9, nil, []api.Shard{{}, {}, of()}, "-"},
		{9, nil, l[:1], "1|a=1|43;2|a=1|5"}, {9, nil, l[1:], "1|a=2|10"}, {9, nil, l, "1|a=1|43;1|a=2|10;2|a=1|5"}, {9, nil, []api.Shard{l[1], {}, l[0]}, "1|a=1|43;1|a=2|10;2|a=1|5"},
		// stamps
		{0, nil, l, "-"}, {-1, nil, l, "-"}, {low, nil, l, "-"}, {1, nil, l, "1|a=1|3"}, {2, nil, l, "1|a=1|3;1|a=2|4"}, {3, nil, l, "1|a=1|3;1|a=2|4;2|a=1|5"},
		{4, nil, l, "1|a=1|3;1|a=2|10;2|a=1|5"}, {5, nil, l, "1|a=1|43;1|a=2|10;2|a=1|5"}, {api.MaxStamp, nil, l, "1|a=1|43;1|a=2|10;2|a=1|5"}, {top, nil, l, "1|a=1|43;1|a=2|10;2|a=1|5"},
		// drops
		{9, []api.Drop{drop(1, 9)}, l, "2|a=1|5"}, {9, []api.Drop{drop(1, 10)}, l, "1|a=1|43;1|a=2|10;2|a=1|5"}, {9, []api.Drop{drop(2, 9), drop(5, 1)}, l, "1|a=1|43;1|a=2|10"}, {9, []api.Drop{drop(1, 1), drop(2, 2)}, l, "-"},
		{2, []api.Drop{drop(1, 3)}, l, "1|a=1|3;1|a=2|4"}, {3, []api.Drop{drop(1, 3)}, l, "2|a=1|5"}, {top, []api.Drop{drop(1, top)}, l, "2|a=1|5"}, {0, []api.Drop{drop(1, 0)}, l, "-"},
		// one shard more than once, and more than there may be
		{9, nil, []api.Shard{l[0], l[0]}, "1|a=1|86;2|a=1|10"}, {9, nil, slices.Concat(l, l, l), "1|a=1|129;1|a=2|30;2|a=1|15"},
	} {
		checkAll(t, q, x.stamp, x.drops, x.shards, x.want)
		for _, not := range odd() {
			checkAll(t, not, x.stamp, x.drops, x.shards, "-")
		}
	}
	checkAll(t, ask("max cpu{a=2}"), 9, nil, l, "1||6")
	checkAll(t, ask("count cpu"), 9, nil, l, "1||4;2||1")
	checkAll(t, ask("min mem"), 9, nil, l, "2||9")
	checkAll(t, ask("min mem"), 5, nil, l, "-")
	// not in order: as Read tells them
	checkAll(t, ask("sum a"), 4, nil, []api.Shard{of(entry(2, "a", version(3, 5), version(1, 7), version(9, 1)), entry(1, "a"), entry(1, "a", version(2, 8)))}, "1||8;2||7")
}

// few is shards that differ in how many entries they have, in keys, and in being in order.
func few() []api.Shard {
	return []api.Shard{
		of(),
		of(entry(0, "a", version(1, 5), version(2, 5, 6)), entry(1, "a", version(3, 7))),
		of(entry(0, "a{t=1}", version(2, 20))),
		of(entry(1, "a{t=1}", version(3, 1), version(1, 2)), entry(0, "a", version(2, top)), entry(1, "no key", version(1, 9))),
	}
}

// P16.1: all short lists of shards, against other means, at each stamp and each Next.
func TestAllShort(t *testing.T) {
	queries := []api.Query{ask("sum a"), ask("count a by t"), ask("max a{t=1}"), {}}
	dropses := [][]api.Drop{nil, {drop(0, 2)}, {drop(1, 1), drop(0, 9)}}
	lists.EachShort(few(), 3, func(l []api.Shard) {
		for _, drops := range dropses {
			for stamp := int64(-1); stamp <= 4; stamp++ {
				for _, q := range queries {
					checkAll(t, q, stamp, drops, l, row.Text(wantAll(q, stamp, drops, l)))
				}
				for next := -1; next <= 4; next++ {
					s := api.Scan{Id: next, Query: queries[1], Stamp: stamp, Next: next, Items: []api.Item{item(4, "a", 1)}}
					checkStep(t, s, l, drops, wantStep(s, l, drops))
					checkDone(t, s, len(l), !(next < len(l)))
				}
			}
		}
	})
}

// act is what may happen between two steps: a write, or that a shard is pruned.
type act struct {
	shard int
	write api.Write
	floor int64
	drops []api.Drop
}

// done is l behind an act; l itself stays as it was.
func (a act) done(t *testing.T, l []api.Shard) []api.Shard {
	t.Helper()
	l = slices.Clone(l)
	if a.write.Stamp == 0 {
		l[a.shard] = shard.Prune(l[a.shard], a.floor, a.drops...)
		return l
	}
	s, e := shard.Apply(l[a.shard], a.write)
	if e != api.OK {
		t.Fatalf("%v couldn't be applied to %v: %d", a.write, l[a.shard], e)
	}
	l[a.shard] = s
	return l
}

// between are acts that change nothing of what is read at a stamp: writes above it, and prunes up to it. The writes' stamps go on from one to the next.
func between(stamp int64, drops []api.Drop) []act {
	return []act{
		{shard: 0, write: write(max(stamp, 6)+1, 1, "cpu{a=1}", 100)}, {shard: 1, write: write(max(stamp, 6)+2, 1, "cpu{a=2}", 200)},
		{shard: 0, floor: stamp}, {shard: 1, floor: stamp - 1, drops: drops}, {shard: 1, write: write(max(stamp, 6)+3, 0, "cpu{a=0}", 300)},
		{shard: 1, floor: stamp, drops: drops}, {shard: 0, floor: low, drops: drops}, {shard: 0, write: write(max(stamp, 6)+4, 2, "cpu{a=1}", -400)}, {shard: 0, floor: stamp, drops: drops},
	}
}

// checkBetween holds a scan against what it would have told at once, where some of the acts are done ahead of its first step, some ahead of its second, and the others behind.
func checkBetween(t *testing.T, q api.Query, stamp int64, drops []api.Drop, acts []act, first, second int) {
	t.Helper()
	l := two()
	want := row.Text(All(q, stamp, drops, l...))
	s := Start(1, q, stamp)
	for n, a := range acts {
		if n == first {
			s = Step(s, l, drops...)
		}
		if n == second {
			s = Step(s, l, drops...)
		}
		l = a.done(t, l)
	}
	for range 2 { // behind the last one a step stays where it is
		s = Step(s, l, drops...)
	}
	checkDone(t, s, 2, true)
	if got := row.Text(Answer(s).Rows); got != want {
		t.Errorf("%v at %d with %v, acts %v, steps behind %d and %d: %s, and at once %s", q, stamp, drops, acts, first, second, got, want)
	}
	if got := row.Text(All(q, stamp, drops, l...)); got != want {
		t.Errorf("%v at %d with %v, behind acts %v: %s, and ahead of them %s", q, stamp, drops, acts, got, want)
	}
}

// P16.2: acts between the steps, all of them and in parts, wherever the steps come.
func TestAsIfAtOnce(t *testing.T) {
	for _, drops := range [][]api.Drop{nil, {drop(1, 4)}, {drop(2, 3), drop(1, 9)}} {
		for stamp := int64(0); stamp <= 8; stamp++ {
			all := between(stamp, drops)
			for _, acts := range [][]act{all, all[:3], all[2:7], all[3:4], all[4:5], all[5:]} {
				for first := range len(acts) + 1 {
					for second := first; second <= len(acts); second++ {
						for _, q := range []api.Query{ask("sum cpu"), ask("count cpu by a"), ask("max cpu{a=1}")} {
							checkBetween(t, q, stamp, drops, acts, first, second)
						}
					}
				}
			}
		}
	}
}

// P16.2: of two acts, each way round, between the same steps.
func TestAsIfAtOnceInPairs(t *testing.T) {
	for _, drops := range [][]api.Drop{nil, {drop(1, 2)}} {
		for stamp := int64(1); stamp <= 6; stamp++ {
			for _, a := range between(stamp, drops) {
				for _, b := range between(stamp, drops) {
					if a.shard == b.shard && a.write.Stamp > 0 && b.write.Stamp > 0 && b.write.Stamp <= a.write.Stamp {
						continue // stamps rise
					}
					for _, steps := range [][]int{{0, 0}, {0, 1}, {0, 2}, {1, 1}, {1, 2}, {2, 2}} {
						checkBetween(t, ask("sum cpu by a"), stamp, drops, []act{a, b}, steps[0], steps[1])
					}
				}
			}
		}
	}
}

// P16.2, the other way: a write at the scan's own stamp, or a prune above it, may be seen, since a step reads what is there.
func TestWhatIsSeen(t *testing.T) {
	l := two()
	s := Step(Start(1, ask("sum cpu"), 7), l)
	l = act{shard: 1, write: write(7, 1, "cpu{a=2}", 100)}.done(t, l)
	if got := row.Text(Answer(Step(s, l)).Rows); got != "1||153;2||5" {
		t.Errorf("a write at the stamp: %s", got)
	}
	l = act{shard: 1, floor: 7}.done(t, two())
	s = Step(Start(1, ask("sum cpu"), 3), l)
	if got := row.Text(Answer(Step(s, l)).Rows); got != "1||3;2||5" {
		t.Errorf("a prune above the stamp: %s", got)
	}
}

// apart is shards no two of which have one Key: some aren't in order, some sums run over.
func apart() []api.Shard {
	return []api.Shard{
		of(entry(1, "cpu{a=1}", version(1, top), version(5, top, 4)), entry(2, "cpu{a=1}", version(3, 5))),
		of(entry(2, "cpu{a=2}", version(2, -9)), entry(1, "cpu{a=2}", version(2, -4), version(4, 6))),
		of(),
		of(entry(1, "cpu{a=3,b=1}", version(2, 7)), entry(1, "cpu{b=1}", version(2, low)), entry(1, "cpu{b=1}", version(1, -1))),
		of(entry(1, "cpu", version(3, 1)), entry(1, "no key", version(1, 1)), entry(1, "cpu", version(3, top))),
	}
}

// P16.3: all orders of shards tell the same.
func TestEveryOrder(t *testing.T) {
	for _, q := range []api.Query{ask("sum cpu"), ask("sum cpu by a"), ask("count cpu by b"), ask("min cpu by a,b"), ask("max cpu{b=1}")} {
		for _, drops := range [][]api.Drop{nil, {drop(1, 3)}, {drop(2, 2)}} {
			for stamp := int64(0); stamp <= 6; stamp++ {
				want := row.Text(wantAll(q, stamp, drops, apart()))
				lists.EachOrder(apart(), func(l []api.Shard) {
					if got := row.Text(All(q, stamp, drops, l...)); got != want {
						t.Errorf("%v at %d with %v of %v is %s, want %s", q, stamp, drops, l, got, want)
					}
				})
				checkAll(t, q, stamp, drops, apart(), want)
			}
		}
	}
}

// P16.3, the other way: where two shards have one Key, it is as they stand.
func TestOneKeyTwice(t *testing.T) {
	a, b, c := of(entry(1, "cpu", version(1, top))), of(entry(1, "cpu", version(2, 3))), of(entry(1, "cpu", version(3, -5)))
	checkAll(t, ask("sum cpu"), 3, nil, []api.Shard{a, c, b}, "1||9223372036854775805")
	checkAll(t, ask("sum cpu"), 3, nil, []api.Shard{c, a, b}, "1||9223372036854775805")
	checkAll(t, ask("sum cpu"), 3, nil, []api.Shard{a, b, c}, "1||9223372036854775807!")
	checkAll(t, ask("sum cpu"), 3, nil, []api.Shard{b, a, c}, "1||9223372036854775807!")
	checkAll(t, ask("sum cpu"), 2, nil, []api.Shard{a, c, b}, "1||9223372036854775807!")
}

// P16.1: many shards, and many items.
func TestMany(t *testing.T) {
	var l []api.Shard
	for i := range 3000 {
		key := "cpu{a=" + strings.Repeat("x", i%10+1) + "}"
		l = append(l, of(entry(int64(i%7), key, version(int64(i%5+1), 1)), entry(int64(i%7+7), key, version(2, 1))))
	}
	for _, q := range []api.Query{ask("count cpu"), ask("sum cpu by a")} {
		got := All(q, 3, []api.Drop{drop(4, 3)}, l...)
		if want := wantAll(q, 3, []api.Drop{drop(4, 3)}, l); len(want) == 0 || !row.Same(got, want) {
			t.Errorf("%v of many is %v, want %v", q, got, want)
		}
	}
	wide := of()
	for i := range 5000 {
		wide.Entries = append(wide.Entries, entry(int64(i), "cpu", version(1, int64(i))))
	}
	s := Step(Start(1, ask("sum cpu"), 1), []api.Shard{wide, wide})
	s = Step(s, []api.Shard{wide, wide})
	if rows := Answer(s).Rows; len(s.Items) != 10000 || len(rows) != 5000 || rows[4999].Value.N != 9998 {
		t.Errorf("of two wide shards there are %d items and %d rows", len(s.Items), len(rows))
	}
}

// P16.1: nothing is kept: an answer hangs on the call's own arguments, and two answers share no memory, nor do an answer's lists.
func TestNothingIsKept(t *testing.T) {
	q, l := ask("sum cpu{a=1} by a"), two()
	for range 3 {
		checkStart(t, 1, q, 3)
		checkAll(t, q, 3, nil, l, "1|a=1|3;2|a=1|5")
		checkAll(t, q, 3, []api.Drop{drop(1, 3)}, l, "2|a=1|5")
		checkAll(t, ask("sum cpu"), 3, nil, l[1:], "1||4")
		checkAnswer(t, api.Scan{Query: q}, "-")
	}
	s := Start(1, q, 3)
	one, two := Step(s, l), Step(s, l)
	stay := Step(one, nil)
	was, rest := wholeScan(two), wholeScan(stay)
	spoil(s)
	if !same(wholeScan(two), was) || !same(wholeScan(stay), rest) {
		t.Errorf("with what was started spoiled, steps became %v and %v", two, stay)
	}
	spoil(one)
	if !same(wholeScan(two), was) || !same(wholeScan(stay), rest) {
		t.Errorf("with another step spoiled, steps became %v and %v", two, stay)
	}
	first, second := Answer(two), Answer(two)
	clear(full(first.Rows))
	if row.Text(second.Rows) != "1|a=1|3;2|a=1|5" {
		t.Errorf("with another answer spoiled, one became %v", second)
	}
}

// P16.1: an answer stays when the arguments are written into afterwards.
func TestAnswersStay(t *testing.T) {
	w := watch(Start(4, ask("sum cpu{a=1} by a"), 9), two(), []api.Drop{drop(2, 1)})
	begun := Start(4, w.scan.Query, 9)
	next := Step(w.scan, w.shards, w.drops...)
	stays := Step(w.scan, nil, w.drops...)
	rows := All(w.scan.Query, 9, w.drops, w.shards...)
	w.scan.Items = append([]api.Item{}, next.Items...)
	told := Answer(w.scan)
	spoil(w.scan)
	spoilShards(w.shards)
	for i := range full(w.drops) {
		full(w.drops)[i] = drop(1, low)
	}
	was := Start(4, ask("sum cpu{a=1} by a"), 9)
	if !same(begun, was) || !same(stays, was) {
		t.Errorf("answers became %v, %v", begun, stays)
	}
	was.Next, was.Items = 1, []api.Item{item(1, "cpu{a=1}", 3, 40)}
	if !same(next, was) || row.Text(rows) != "1|a=1|43" || row.Text(told.Rows) != "1|a=1|43" {
		t.Errorf("answers became %v, %v, %v", next, rows, told)
	}
}

// fuzzedShards is shards out of bytes: of each three a window, a key, and a stamp; a stamp of a multiple of 16 begins another shard.
func fuzzedShards(b []byte) []api.Shard {
	keys := []string{"a", "a{t=1}", "a{t=2}", "b", "a{", ""}
	l := []api.Shard{{}}
	for part := range slices.Chunk(b, 3) {
		if len(part) < 3 {
			break
		}
		if part[2]%16 == 0 {
			l = append(l, api.Shard{})
		}
		entries := &l[len(l)-1].Entries
		window, key := int64(int8(part[0])/32), keys[int(part[1])%len(keys)]
		if n := len(*entries); n > 0 && (*entries)[n-1].Window == window && (*entries)[n-1].Key == key {
			(*entries)[n-1].Versions = append((*entries)[n-1].Versions, version(int64(int8(part[2])), int64(part[1])))
			continue
		}
		*entries = append(*entries, entry(window, key, version(int64(int8(part[2])), int64(part[1]), int64(part[0]))))
	}
	return l
}

// P16.1, P16.2: the same for whatever a fuzzer finds.
func FuzzScans(f *testing.F) {
	for _, b := range [][]byte{nil, {0, 0, 1}, {0, 0, 1, 0, 0, 2, 1, 1, 32, 1, 1, 5, 255, 3, 7}, {9, 4, 3, 9, 5, 3, 9, 0, 16, 9, 0, 240}, {64, 2, 128, 64, 2, 127, 64, 1, 0}} {
		f.Add(b, int64(3), int64(1), int64(2), 0)
		f.Add(b, int64(-9), int64(0), int64(-20), 1)
	}
	f.Fuzz(func(t *testing.T, b []byte, stamp, window, from int64, next int) {
		l, drops := fuzzedShards(b), []api.Drop{drop(window, from), drop(window+1, from)}
		for _, q := range []api.Query{ask("sum a"), ask("max a{t=1} by t"), {}} {
			checkAll(t, q, stamp, drops, l, row.Text(wantAll(q, stamp, drops, l)))
			checkAll(t, q, stamp, nil, l, row.Text(wantAll(q, stamp, nil, l)))
			s := api.Scan{Id: next, Query: q, Stamp: stamp, Next: next, Items: wantRead(l[0], stamp, nil)}
			checkStep(t, s, l, drops, wantStep(s, l, drops))
			checkDone(t, s, len(l), !(next < len(l)))
		}
		checkPruned(t, l, stamp, drops)
	})
}

// checkPruned wants a scan told the same where shards in order are pruned at its stamp, or below it.
func checkPruned(t *testing.T, l []api.Shard, stamp int64, drops []api.Drop) {
	t.Helper()
	for _, s := range l {
		if !shard.Right(s) {
			return
		}
	}
	q := ask("sum a by t")
	want := row.Text(All(q, stamp, drops, l...))
	for _, floor := range []int64{stamp, stamp/2 - 1} {
		if floor > stamp {
			continue
		}
		pruned := []api.Shard{}
		for _, s := range l {
			pruned = append(pruned, shard.Prune(s, floor, drops...))
		}
		checkAll(t, q, stamp, drops, pruned, want)
	}
}
