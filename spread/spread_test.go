package spread

import (
	"hash/fnv"
	"math"
	"math/bits"
	"slices"
	"strings"
	"testing"

	"ebbtide/lists"
)

// wantHash is what Hash must answer, told by other means: in numbers of 64 bits, which hold each product, and what is left of it.
func wantHash(s string) uint32 {
	hash := uint64(2166136261)
	for _, b := range []byte(s) {
		hash = (hash ^ uint64(b)) * 16777619 % (1 << 32)
	}
	return uint32(hash)
}

// libraryHash is the same, by the library.
func libraryHash(s string) uint32 {
	h := fnv.New32a()
	h.Write([]byte(s))
	return h.Sum32()
}

// wantCount is how many lists Parts must answer.
func wantCount(shards int) int {
	switch shards {
	case 2, 3, 4:
		return shards
	}
	return 1
}

// wantOf is what Of must answer: what is left, when shards are taken away as often as they can be.
func wantOf(s string, shards int) int {
	n := int64(wantCount(shards))
	hash := int64(wantHash(s))
	return int(hash - hash/n*n)
}

// someShards are numbers of shards that may be, just below and above, far off, and such as have few bits that are not 0 at their lower end.
func someShards() []int {
	return []int{
		1, 2, 3, 4, 0, -1, -2, -3, -4, -5, 5, 6, 7, 8, 64, 1000, 255, 256, 257, 258, 259, 260, 1<<16 + 2, -1<<16 + 3,
		1 << (bits.UintSize / 2), 1<<(bits.UintSize/2) + 1, 1<<(bits.UintSize/2) + 3, -1 << (bits.UintSize / 2), 3 - 1<<(bits.UintSize/2),
		math.MaxInt32, math.MinInt32, math.MaxInt, math.MaxInt - 1, math.MinInt, math.MinInt + 1, math.MinInt + 2,
	}
}

// checkHash holds Hash against what is wanted by hand, and that against both other means.
func checkHash(t *testing.T, s string, want uint32) {
	t.Helper()
	if got := Hash(s); got != want {
		t.Errorf("Hash(%q) = %d, want %d", s, got, want)
	}
	if wantHash(s) != want || libraryHash(s) != want {
		t.Errorf("by other means the hash of %q is %d and %d, not %d", s, wantHash(s), libraryHash(s), want)
	}
}

// checkText holds Hash and Of of any text against what is said of them.
func checkText(t *testing.T, s string, shards ...int) {
	t.Helper()
	checkHash(t, s, wantHash(s))
	for _, n := range shards {
		if got := Of(s, n); got != wantOf(s, n) {
			t.Errorf("Of(%q, %d) = %d, want %d", s, n, got, wantOf(s, n))
		}
	}
}

// P12.1: Hash, by hand; that of a is the chapter's example.
func TestHash(t *testing.T) {
	for s, want := range map[string]uint32{
		"":  2166136261,
		"a": 3826002220, "b": 3876335077, "c": 3859557458, "d": 3775669363, "e": 3758891744, "f": 3809224601,
		"fo": 1646454850, "foo": 2851307223, "foob": 1062237935, "fooba": 967483786, "foobar": 3214735720,
		"cpu": 4182440329, "cpu{a=1}": 176054082,
		"\x00": 84696351, "\xff": 2047574606, "\xc3\xa9": 513665217,
		// the greatest and the least numbers, and those about the middle
		"ppkttia": 0, "\xcc\x24\x31\xc4": 0, "aeto96": 1, "prezece": 4294967295, "h8g2eja": 4294967294,
		"yu7t4te": 2147483647, "qqk42v": 2147483648, "buh5p0d": 2147483649, "u8w7_6": 65535, "mlxkx_h": 65536,
	} {
		checkHash(t, s, want)
	}
}

// P12.1: Hash of products that just don't run over 32 bits, and that do.
func TestHashRunsOver(t *testing.T) {
	for s, want := range map[string]uint32{
		"bv55iqh": 255, "gx7_amb": 256, "v6_3q4a": 257,
		"bv55iqh\x00": 4278292845, // 255 times 16777619, which 32 bits hold
		"bv55iqh\xff": 0,
		"bv55iqh\xfe": 16777619,
		"gx7_amb\x00": 103168, // 256 times 16777619, which they don't
		"gx7_amb\xff": 4278396013,
		"v6_3q4a\x00": 16880787,
		"v6_3q4a\x01": 103168,
		"ppkttia\x00": 0, "ppkttia\x00\x00\x00": 0,
		"ppkttia\x01": 16777619, "ppkttia\xff": 4278292845, "ppkttia\x01\x00": 637696617,
	} {
		checkHash(t, s, want)
	}
}

// P12.1: each byte counts as one of 0 to 255: alone, at the head, in the midst, at the end, and behind a hash of 0, where its product alone is left.
func TestEachByte(t *testing.T) {
	for c := range 256 {
		b := string([]byte{byte(c)})
		checkHash(t, b, uint32((2166136261^uint64(c))*16777619%(1<<32)))
		checkHash(t, "ppkttia"+b, uint32(c)*16777619)
		for _, s := range []string{b + "a", "a" + b, "a" + b + "c", b + b, "\xc3" + b, b + "\xa9", b + "\x00", "\x00" + b} {
			checkText(t, s, 1, 2, 3, 4, 0)
		}
	}
}

// P12.1: the order of bytes counts, and how many there are.
func TestHashTellsTextsApart(t *testing.T) {
	seen := map[uint32]string{}
	for _, s := range []string{"", "\x00", "\x00\x00", "a", "a\x00", "\x00a", "aa", "ab", "ba", "abc", "acb", "cba", "A", "a ", " a", "cpu{a=1,b=2}", "cpu{a=2,b=1}", "cpu", "CPU", "\u00e9", "e\u0301"} {
		if was, found := seen[Hash(s)]; found {
			t.Errorf("%q and %q have one hash", was, s)
		}
		seen[Hash(s)] = s
	}
}

// P12.1: Hash and Of of long texts.
func TestLong(t *testing.T) {
	all := make([]byte, 0, 1<<20)
	for i := range 1 << 20 {
		all = append(all, byte(i*i>>3+i))
	}
	s := string(all)
	for _, n := range []int{12, 13, 119, 120, 121, 255, 256, 257, 65535, 65536, 65537, 1 << 20} {
		checkText(t, s[:n], someShards()...)
		checkText(t, strings.Repeat("a", n), someShards()...)
		checkText(t, strings.Repeat("\x00", n), someShards()...)
	}
}

// P12.1: Of, by hand, for 1, 2, 3 and 4 shards.
func TestOf(t *testing.T) {
	for s, want := range map[string][4]int{
		"": {0, 1, 1, 1}, "a": {0, 0, 1, 0}, "b": {0, 1, 1, 1}, "c": {0, 0, 2, 2}, "d": {0, 1, 1, 3}, "e": {0, 0, 2, 0},
		"foobar": {0, 0, 1, 0}, "foob": {0, 1, 2, 3}, "cpu": {0, 1, 1, 1}, "cpu{a=1}": {0, 0, 0, 2}, "\x00": {0, 1, 0, 3}, "\xff": {0, 0, 2, 2},
		"ppkttia": {0, 0, 0, 0}, "aeto96": {0, 1, 1, 1}, "bv55iqh": {0, 1, 0, 3}, "gx7_amb": {0, 0, 1, 0}, "v6_3q4a": {0, 1, 2, 1},
		// about the greatest number of 31 bits, and the greatest of 32
		"yu7t4te": {0, 1, 1, 3}, "qqk42v": {0, 0, 2, 0}, "buh5p0d": {0, 1, 0, 1}, "h8g2eja": {0, 0, 2, 2}, "prezece": {0, 1, 0, 3},
	} {
		for i := range want {
			if got := Of(s, i+1); got != want[i] {
				t.Errorf("Of(%q, %d) = %d, want %d", s, i+1, got, want[i])
			}
		}
	}
}

// P12.1: Of and Parts of shards that may not be.
func TestOtherShards(t *testing.T) {
	for _, shards := range someShards() {
		if 1 <= shards && shards <= 4 {
			continue
		}
		for _, s := range []string{"", "a", "b", "c", "d", "e", "foob", "yu7t4te", "buh5p0d", "prezece"} {
			if got := Of(s, shards); got != 0 {
				t.Errorf("Of(%q, %d) = %d", s, shards, got)
			}
		}
		checkParts(t, shards, nil, [][]string{{}})
		checkParts(t, shards, []string{"d", "a", "", "d", "c"}, [][]string{{"d", "a", "", "d", "c"}})
	}
}

// equal: the same lists, one by one, each as it stands?
func equal(a, b [][]string) bool { return slices.EqualFunc(a, b, slices.Equal[[]string]) }

// copied is all that stands in some lists, and in the spare room behind each.
func copied(l [][]string) [][]string {
	own := [][]string{}
	for _, one := range l {
		own = append(own, slices.Clone(one[:cap(one)]))
	}
	return own
}

// checkParts holds Parts against what is wanted, what was handed in against what it was, its spare room too, and each part against the others, when one is written into.
func checkParts(t *testing.T, shards int, l []string, want [][]string) {
	t.Helper()
	whole := slices.Concat(l, []string{"spare", "", "room"})
	was := slices.Clone(whole)
	got := Parts(shards, whole[:len(l)]...)
	if !equal(got, want) {
		t.Errorf("Parts(%d, %q) = %q, want %q", shards, l, got, want)
	}
	for i := range got {
		others := copied(slices.Concat(got[:i], got[i+1:]))
		all := got[i][:cap(got[i])]
		for j := range all {
			all[j] = "spoilt"
		}
		if now := copied(slices.Concat(got[:i], got[i+1:])); !equal(now, others) {
			t.Errorf("Parts(%d, %q): behind a write into part %d %q became %q", shards, l, i, others, now)
		}
	}
	clear(got[:cap(got)])
	if !slices.Equal(whole, was) {
		t.Errorf("Parts(%d, ..): %q became %q", shards, was, whole)
	}
}

// P12.1: Parts, by hand.
func TestParts(t *testing.T) {
	for _, x := range []struct {
		shards int
		l      []string
		want   [][]string
	}{
		// no texts: all parts are there, and stay empty
		{1, nil, [][]string{{}}}, {2, nil, [][]string{{}, {}}}, {3, []string{}, [][]string{{}, {}, {}}}, {4, nil, [][]string{{}, {}, {}, {}}},
		// one text, which may be empty
		{1, []string{""}, [][]string{{""}}}, {2, []string{""}, [][]string{{}, {""}}}, {4, []string{"c"}, [][]string{{}, {}, {"c"}, {}}}, {4, []string{"d"}, [][]string{{}, {}, {}, {"d"}}},
		// as they stand, not by their bytes, and not by their hashes
		{1, []string{"b", "c", "a"}, [][]string{{"b", "c", "a"}}}, {1, []string{"c", "a", "b"}, [][]string{{"c", "a", "b"}}},
		{2, []string{"e", "c", "a", "d", "b"}, [][]string{{"e", "c", "a"}, {"d", "b"}}}, {2, []string{"b", "a", "d", "c", "e"}, [][]string{{"a", "c", "e"}, {"b", "d"}}},
		{3, []string{"e", "cpu{a=1}", "d", "c", "", "\x00", "a"}, [][]string{{"cpu{a=1}", "\x00"}, {"d", "", "a"}, {"e", "c"}}},
		{4, []string{"foob", "e", "c", "b", "d", "a", "\xff", "cpu", ""}, [][]string{{"e", "a"}, {"b", "cpu", ""}, {"c", "\xff"}, {"foob", "d"}}},
		// alike, as often as they are told
		{2, []string{"a", "b", "a", "foobar"}, [][]string{{"a", "a", "foobar"}, {"b"}}},
		{1, []string{"a", "a", "a"}, [][]string{{"a", "a", "a"}}}, {3, []string{"e", "e"}, [][]string{{}, {}, {"e", "e"}}},
		{4, []string{"b", "d", "b", "b", "", "", "d"}, [][]string{{}, {"b", "b", "b", "", ""}, {}, {"d", "d"}}},
		// some parts stay empty, ahead, between and behind
		{4, []string{"e", "a"}, [][]string{{"e", "a"}, {}, {}, {}}}, {4, []string{"cpu", "a"}, [][]string{{"a"}, {"cpu"}, {}, {}}}, {3, []string{"c", "\x00"}, [][]string{{"\x00"}, {}, {"c"}}},
		// above the greatest number of 31 bits
		{4, []string{"prezece", "buh5p0d", "h8g2eja", "qqk42v"}, [][]string{{"qqk42v"}, {"buh5p0d"}, {"h8g2eja"}, {"prezece"}}},
	} {
		checkParts(t, x.shards, x.l, x.want)
	}
}

// often is how often s stands in l.
func often(l []string, s string) int {
	n := 0
	for _, one := range l {
		if one == s {
			n++
		}
	}
	return n
}

// checkEachOnce holds Parts of any texts against what is said of them: each text is in the part that is its own, in no other one, and as often as it is told; no others are in any.
func checkEachOnce(t *testing.T, shards int, l []string) {
	t.Helper()
	want := make([][]string, wantCount(shards))
	for i := range want {
		want[i] = slices.DeleteFunc(slices.Clone(l), func(s string) bool { return wantOf(s, shards) != i })
	}
	checkParts(t, shards, l, want)
	parts := Parts(shards, l...)
	all := 0
	for _, part := range parts {
		all += len(part)
	}
	if all != len(l) {
		t.Errorf("Parts(%d, ..) of %d texts have %d", shards, len(l), all)
	}
	for _, s := range l {
		in := slices.DeleteFunc(slices.Clone(parts), func(part []string) bool { return !slices.Contains(part, s) })
		if len(in) != 1 || often(in[0], s) != often(l, s) || !slices.Contains(parts[Of(s, shards)], s) {
			t.Errorf("Parts(%d, %q) = %q: %q is in %d of them", shards, l, parts, s, len(in))
		}
	}
}

// P12.2: all short lists of some texts.
func TestEachOnce(t *testing.T) {
	lists.EachShort([]string{"", "a", "c", "d", "foob", "\x00"}, 4, func(l []string) {
		for _, shards := range []int{1, 2, 3, 4, 0, -1, 5, math.MaxInt, math.MinInt} {
			checkEachOnce(t, shards, l)
		}
	})
}

// P12.2: the same in every order: each part has the texts of its own in that order.
func TestInWhateverOrder(t *testing.T) {
	lists.EachOrder([]string{"a", "b", "c", "d", "e", "b"}, func(l []string) {
		for shards := range 6 {
			checkEachOnce(t, shards, l)
		}
	})
}

// P12.2: many texts, alike and not, of which each part has some.
func TestMany(t *testing.T) {
	l := []string{}
	for i := range 900 {
		l = append(l, "cpu{a="+strings.Repeat("x", i%7)+string([]byte{byte(i * 5)})+"}")
	}
	for _, shards := range someShards() {
		checkEachOnce(t, shards, l)
		for i, part := range Parts(shards, l...) {
			if len(part) == 0 {
				t.Errorf("of %d shards %d has none", shards, i)
			}
		}
	}
}

// P12.1: a call hangs on its arguments alone: who writes into an answer changes no later one.
func TestNothingIsKept(t *testing.T) {
	l := []string{"d", "a", "c", "b", "a"}
	for range 3 {
		for shards := range 6 {
			checkEachOnce(t, shards, l)
			checkEachOnce(t, shards, nil)
		}
	}
	one, two := Parts(2, l...), Parts(2, l...)
	clear(one[0][:cap(one[0])])
	clear(one[:cap(one)])
	if !equal(two, [][]string{{"a", "c", "a"}, {"d", "b"}}) || !slices.Equal(l, []string{"d", "a", "c", "b", "a"}) {
		t.Errorf("two became %q, and what was handed in %q", two, l)
	}
}

// P12.1, P12.2: the same for whatever a fuzzer finds.
func FuzzTexts(f *testing.F) {
	for i, s := range []string{"", "a", "a,,b", "foobar", "\xff\xfe", "yu7t4te,buh5p0d", "ppkttia\xff,,d,c,b,a"} {
		f.Add(s, i)
		f.Add(s, -i)
	}
	f.Fuzz(func(t *testing.T, s string, shards int) {
		checkText(t, s, shards, 1, 2, 3, 4)
		checkEachOnce(t, shards, strings.Split(s, ","))
	})
}
