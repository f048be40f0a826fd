package win

import (
	"math"
	"math/big"
	"testing"

	"ebbtide/api"
)

const (
	top  = math.MaxInt64
	low  = math.MinInt64
	last = 1000000000000    // the last time of an event, and the last window's number
	far  = 4000000000000000 // as far as time goes on
)

// about is each number with those just below and above, as far as 64 bits hold them.
func about(some ...int64) []int64 {
	l := []int64{}
	for _, n := range some {
		for d := int64(-2); d <= 2; d++ {
			if sum := new(big.Int).Add(big.NewInt(n), big.NewInt(d)); sum.IsInt64() {
				l = append(l, sum.Int64())
			}
		}
	}
	return l
}

// someWidths are widths that may be, and such as may not, so great that a product runs over, and round to a number that may be, among them.
func someWidths() []int64 {
	return append(about(0, 10, 256, 1000, last, far, 1<<32+7, -1000, top, low), 1001+1<<32, 1<<63-1000, 1<<62)
}

// someNumbers are times of events and windows' numbers, and such as are not, some of which a width turns to 0, or to a number that may be, when a product runs over.
func someNumbers() []int64 {
	return append(about(0, 25, 1000, last, last/7, last*1000, far, 1<<32+5, top/1000, low/1000, top/2, low/2, top, low), 1<<60, 1<<61, -1<<61, 1<<62, -1<<62, -last)
}

// someLates are latenesses that may be, and such as may not.
func someLates() []int64 { return about(0, 5, 1000, 1<<32+5, -1000, last, top, low) }

// someNows are times that the clock may show, and such as it never does.
func someNows() []int64 {
	return about(0, 35, -35, last, last*1000, last*1000+2000, far, -far, 2*far, top-far, low+far, top/2, low/2, top, low)
}

// between: is n from a to b?
func between(n, a, b int64) bool { return a <= n && n <= b }

// bigTimes is a product that has no end.
func bigTimes(a, b int64) *big.Int { return new(big.Int).Mul(big.NewInt(a), big.NewInt(b)) }

// bigPlus is a sum that has no end.
func bigPlus(a *big.Int, b int64) *big.Int { return new(big.Int).Add(a, big.NewInt(b)) }

// wantOf is what Of must answer.
func wantOf(time, width int64) (int64, api.Errno) {
	if !between(width, 1, 1000) {
		return 0, api.ErrArg
	}
	if !between(time, 0, last) {
		return 0, api.ErrRange
	}
	return new(big.Int).Div(big.NewInt(time), big.NewInt(width)).Int64(), api.OK
}

// wantStart and wantEnd are what Start and End must answer.
func wantStart(window, width int64) *big.Int {
	if !between(width, 1, 1000) || !between(window, 0, last) {
		return big.NewInt(0)
	}
	return bigTimes(window, width)
}

func wantEnd(window, width int64) *big.Int {
	if !between(width, 1, 1000) || !between(window, 0, last) {
		return big.NewInt(0)
	}
	return bigPlus(bigTimes(window, width), width)
}

// wantClosed is what Closed must answer.
func wantClosed(window, width, late, now int64) bool {
	if !between(window, 0, last) || !between(width, 1, 1000) || !between(late, 0, 1000) {
		return false
	}
	return big.NewInt(now).Cmp(bigPlus(wantEnd(window, width), late)) >= 0
}

// wantTick is what Tick must answer.
func wantTick(now, by int64) int64 {
	if by < 0 {
		return now
	}
	sum := bigPlus(big.NewInt(now), by)
	if by >= far || sum.Cmp(big.NewInt(far)) > 0 {
		return far
	}
	return sum.Int64()
}

// checkOf holds Of against what is wanted.
func checkOf(t *testing.T, time, width int64) {
	t.Helper()
	want, wantE := wantOf(time, width)
	if got, e := Of(time, width); got != want || e != wantE {
		t.Errorf("Of(%d, %d) = %d, %d, want %d, %d", time, width, got, e, want, wantE)
	}
}

// checkEnds holds Start and End against what is wanted.
func checkEnds(t *testing.T, window, width int64) {
	t.Helper()
	if got, want := Start(window, width), wantStart(window, width); big.NewInt(got).Cmp(want) != 0 {
		t.Errorf("Start(%d, %d) = %d, want %v", window, width, got, want)
	}
	if got, want := End(window, width), wantEnd(window, width); big.NewInt(got).Cmp(want) != 0 {
		t.Errorf("End(%d, %d) = %d, want %v", window, width, got, want)
	}
}

// checkClosed holds Closed against what is wanted.
func checkClosed(t *testing.T, window, width, late, now int64) {
	t.Helper()
	if got, want := Closed(window, width, late, now), wantClosed(window, width, late, now); got != want {
		t.Errorf("Closed(%d, %d, %d, %d) = %v", window, width, late, now, got)
	}
}

// checkTick holds Tick against what is wanted.
func checkTick(t *testing.T, now, by int64) {
	t.Helper()
	if got, want := Tick(now, by), wantTick(now, by); got != want {
		t.Errorf("Tick(%d, %d) = %d, want %d", now, by, got, want)
	}
}

// P13.1: Of, by hand; 25 of the width 10 is the chapter's example.
func TestOf(t *testing.T) {
	for _, x := range []struct {
		time, width, want int64
		e                 api.Errno
	}{
		{25, 10, 2, api.OK}, {20, 10, 2, api.OK}, {29, 10, 2, api.OK}, {19, 10, 1, api.OK}, {30, 10, 3, api.OK}, {0, 10, 0, api.OK}, {9, 10, 0, api.OK}, {10, 10, 1, api.OK},
		// the least width, and the greatest
		{0, 1, 0, api.OK}, {1, 1, 1, api.OK}, {last, 1, last, api.OK}, {last - 1, 1, last - 1, api.OK},
		{0, 1000, 0, api.OK}, {999, 1000, 0, api.OK}, {1000, 1000, 1, api.OK}, {1999, 1000, 1, api.OK}, {last, 1000, 1000000000, api.OK}, {last - 1, 1000, 999999999, api.OK},
		{last, 7, 142857142857, api.OK}, {last, 999, 1001001001, api.OK}, {4294967296, 2, 2147483648, api.OK},
		// widths that may not be
		{25, 0, 0, api.ErrArg}, {25, -1, 0, api.ErrArg}, {25, -10, 0, api.ErrArg}, {25, 1001, 0, api.ErrArg}, {25, 4294967306, 0, api.ErrArg}, {0, 0, 0, api.ErrArg},
		{25, last, 0, api.ErrArg}, {25, top, 0, api.ErrArg}, {25, low, 0, api.ErrArg}, {low, -1, 0, api.ErrArg},
		// times that are no event's
		{-1, 10, 0, api.ErrRange}, {-10, 10, 0, api.ErrRange}, {last + 1, 10, 0, api.ErrRange}, {last + 1, 1, 0, api.ErrRange}, {last + 1, 1000, 0, api.ErrRange}, {-1, 1000, 0, api.ErrRange},
		{top, 1, 0, api.ErrRange}, {low, 1, 0, api.ErrRange}, {top, 1000, 0, api.ErrRange}, {low, 1000, 0, api.ErrRange},
		// both
		{-1, 0, 0, api.ErrArg}, {-1, 1001, 0, api.ErrArg}, {last + 1, 0, 0, api.ErrArg}, {last + 1, 1001, 0, api.ErrArg}, {top, top, 0, api.ErrArg}, {low, low, 0, api.ErrArg},
	} {
		if got, e := Of(x.time, x.width); got != x.want || e != x.e {
			t.Errorf("Of(%d, %d) = %d, %d, want %d, %d", x.time, x.width, got, e, x.want, x.e)
		}
	}
}

// P13.1: Start and End, by hand; the second is the chapter's example.
func TestEnds(t *testing.T) {
	for _, x := range []struct{ window, width, start, end int64 }{
		{0, 10, 0, 10}, {2, 10, 20, 30}, {0, 1, 0, 1}, {1, 1, 1, 2}, {0, 1000, 0, 1000}, {1, 1000, 1000, 2000}, {7, 999, 6993, 7992},
		// the last window
		{last, 1, last, last + 1}, {last, 10, 10000000000000, 10000000000010}, {last, 1000, 1000000000000000, 1000000000001000}, {last - 1, 1000, 999999999999000, 1000000000000000},
		// windows that there are not
		{-1, 10, 0, 0}, {-1, 1, 0, 0}, {-2, 1000, 0, 0}, {last + 1, 10, 0, 0}, {last + 1, 1, 0, 0}, {last + 1, 1000, 0, 0},
		{top, 1, 0, 0}, {top, 1000, 0, 0}, {low, 1, 0, 0}, {low, 1000, 0, 0}, {top / 1000, 1000, 0, 0}, {top/1000 + 1, 1000, 0, 0}, {-last, 10, 0, 0},
		// widths that may not be
		{2, 0, 0, 0}, {2, -1, 0, 0}, {2, -10, 0, 0}, {2, 1001, 0, 0}, {0, 1001, 0, 0}, {0, -1, 0, 0}, {2, last, 0, 0}, {2, top, 0, 0}, {2, low, 0, 0}, {0, top, 0, 0}, {0, low, 0, 0},
		// both
		{-1, 0, 0, 0}, {-1, -1, 0, 0}, {-10, -10, 0, 0}, {last + 1, 1001, 0, 0}, {top, top, 0, 0}, {low, low, 0, 0}, {low, -1, 0, 0},
	} {
		if start, end := Start(x.window, x.width), End(x.window, x.width); start != x.start || end != x.end {
			t.Errorf("window %d of the width %d is from %d to %d, want %d to %d", x.window, x.width, start, end, x.start, x.end)
		}
	}
}

// P13.1: Closed, by hand: from which time on, and just below it not; the first is the chapter's example.
func TestClosedFrom(t *testing.T) {
	for _, x := range []struct{ window, width, late, from int64 }{
		{2, 10, 5, 35}, {2, 10, 0, 30}, {2, 10, 1000, 1030}, {2, 10, 999, 1029}, {0, 1, 0, 1}, {0, 1, 1, 2}, {0, 1000, 0, 1000}, {0, 1000, 1000, 2000},
		{last, 1, 0, last + 1}, {last, 1, 1000, last + 1001}, {last, 1000, 0, 1000000000001000}, {last, 1000, 1000, 1000000000002000},
	} {
		for _, now := range []int64{x.from, x.from + 1, x.from + 1000, far, far + 1, top - 1, top} {
			if !Closed(x.window, x.width, x.late, now) {
				t.Errorf("Closed(%d, %d, %d, %d) = false", x.window, x.width, x.late, now)
			}
		}
		for _, now := range []int64{x.from - 1, x.from - 2, 0, -1, -x.from, -far, low + 1, low} {
			if Closed(x.window, x.width, x.late, now) {
				t.Errorf("Closed(%d, %d, %d, %d) = true", x.window, x.width, x.late, now)
			}
		}
	}
}

// P13.1: what there isn't is never closed.
func TestNeverClosed(t *testing.T) {
	for _, x := range [][3]int64{
		{-1, 10, 5}, {last + 1, 10, 5}, {last + 1, 1, 0}, {last + 1, 1000, 1000}, {top, 1, 0}, {top, 1000, 0}, {low, 1, 0}, {low, 1000, 1000}, {1 << 61, 1000, 0}, {top / 10, 10, 0},
		{2, 0, 5}, {2, -1, 5}, {2, -10, 5}, {2, 1001, 5}, {0, 1001, 0}, {2, top, 5}, {2, low, 5},
		{2, 10, -1}, {2, 10, -5}, {2, 10, 1001}, {0, 1, -1}, {0, 1, 1001}, {2, 10, top}, {2, 10, low}, {last, 1000, top}, {last, 1000, low},
		{-1, 0, -1}, {last + 1, 1001, 1001}, {-1, -1, 5}, {top, top, top}, {low, low, low}, {2, 0, 1001}, {-1, 10, 1001},
	} {
		for _, now := range []int64{low, low + 1, -far, -1, 0, 1, 35, 9999, last, last * 1000, far, far + 1, top - 1, top} {
			if Closed(x[0], x[1], x[2], now) {
				t.Errorf("Closed(%d, %d, %d, %d) = true", x[0], x[1], x[2], now)
			}
		}
	}
}

// P13.1: Tick, by hand.
func TestTick(t *testing.T) {
	for _, x := range []struct{ now, by, want int64 }{
		{0, 0, 0}, {3, 4, 7}, {3, 0, 3}, {0, 1, 1}, {-5, 3, -2}, {-5, 5, 0}, {-5, 8, 3}, {last, last, 2 * last},
		// by what is below 0
		{3, -1, 3}, {3, -4, 3}, {3, low, 3}, {0, -1, 0}, {-5, -1, -5}, {far, -1, far}, {far + 1, -1, far + 1}, {5000000000000000, -1, 5000000000000000},
		{top, -1, top}, {top, low, top}, {low, -1, low}, {low, low, low}, {low, -far, low},
		// by just below as far as time goes on, by that, and by more
		{0, far - 1, far - 1}, {1, far - 1, far}, {2, far - 1, far}, {-1, far - 1, far - 2}, {0, far, far}, {1, far, far}, {0, far + 1, far}, {0, top, far},
		{-1, far, far}, {-1, far + 1, far}, {-far, far, far}, {-far, far - 1, -1}, {-2 * far, far, far}, {-2 * far, far + 1, far}, {-2 * far, far - 1, -far - 1},
		{low, far - 1, -9219372036854775809}, {low, far, far}, {low, top, far}, {low, 0, low}, {low, 1, low + 1}, {low + 1, top, far},
		// from just below as far as time goes on, from that, and from more
		{far - 1, 0, far - 1}, {far - 1, 1, far}, {far - 1, 2, far}, {far - 2, 1, far - 1}, {far, 0, far}, {far, 1, far}, {far, far, far}, {far, top, far},
		{far + 1, 0, far}, {far + 1, 1, far}, {5000000000000000, 0, far}, {top, 0, far}, {top, 1, far}, {top, far - 1, far}, {top, far, far}, {top, top, far}, {top - far, far - 1, far},
	} {
		if got := Tick(x.now, x.by); got != x.want {
			t.Errorf("Tick(%d, %d) = %d, want %d", x.now, x.by, got, x.want)
		}
	}
}

// P13.1: all calls at all of the edges, held against numbers that have no end; once more, since a call hangs on its arguments alone.
func TestEdges(t *testing.T) {
	for range 2 {
		for _, n := range someNumbers() {
			for _, width := range someWidths() {
				checkOf(t, n, width)
				checkEnds(t, n, width)
			}
		}
		for _, now := range someNows() {
			for _, by := range append(someNows(), someNumbers()...) {
				checkTick(t, now, by)
			}
		}
	}
}

// P13.1: Closed at all of the edges, and about where each window is closed.
func TestClosedAtEdges(t *testing.T) {
	nows := someNows()
	for _, window := range someNumbers() {
		for _, width := range someWidths() {
			for _, late := range someLates() {
				for _, now := range nows {
					checkClosed(t, window, width, late, now)
				}
				for _, now := range about(Start(window, width), End(window, width), bigPlus(wantEnd(window, width), late).Int64()) {
					checkClosed(t, window, width, late, now)
				}
			}
		}
	}
}

// P13.1: all small numbers, also below 0 and above the limits.
func TestSmallNumbers(t *testing.T) {
	for n := int64(-30); n <= 1100; n++ {
		for width := int64(-2); width <= 1003; width++ {
			checkOf(t, n, width)
			checkEnds(t, n, width)
		}
	}
	for now := int64(-60); now <= 60; now++ {
		for by := int64(-60); by <= 60; by++ {
			checkTick(t, now, by)
			checkTick(t, now+far, by)
			checkTick(t, now, by+far)
		}
	}
}

// P13.1: Closed of all small windows, widths and latenesses, at all times about.
func TestSmallClosed(t *testing.T) {
	for window := int64(-2); window <= 4; window++ {
		for width := int64(-2); width <= 6; width++ {
			for late := int64(-2); late <= 6; late++ {
				for now := int64(-10); now <= 60; now++ {
					checkClosed(t, window, width, late, now)
				}
			}
		}
	}
}

// within: is a time in a window, by where it begins and ends?
func within(time, window, width int64) bool {
	return Start(window, width) <= time && time < End(window, width)
}

// checkOneByOne: is an event's time in its window, and in none of those about it?
func checkOneByOne(t *testing.T, time, width int64) {
	t.Helper()
	own, e := Of(time, width)
	if e != api.OK || !within(time, own, width) {
		t.Errorf("%d isn't in window %d, %d, from %d to %d", time, own, e, Start(own, width), End(own, width))
	}
	for _, other := range append(about(0, own, last, time, own/2, own+1000), own-own%10) {
		if other != own && within(time, other, width) {
			t.Errorf("%d, of window %d of the width %d, is in window %d, too", time, own, width, other)
		}
	}
}

// P13.2: each time in a row is in its window, and in no other one, for all widths, at both ends of the times.
func TestOneByOne(t *testing.T) {
	for width := int64(1); width <= 1000; width++ {
		for _, first := range []int64{0, 2*width - 2, last/2 - 2, last/width*width - 3, last - 3} {
			for time := first; time <= first+5; time++ {
				if between(time, 0, last) {
					checkOneByOne(t, time, width)
				}
			}
		}
	}
	for _, width := range []int64{1, 2, 3, 7, 10, 999, 1000} {
		for time := range int64(2500) {
			checkOneByOne(t, time, width)
			checkOneByOne(t, last-time, width)
		}
	}
}

// P13.2: of all small windows just one has a time.
func TestInNoOther(t *testing.T) {
	for width := int64(1); width <= 20; width++ {
		for time := range int64(60) {
			in := 0
			for window := int64(-3); window <= 62; window++ {
				if within(time, window, width) {
					in++
				}
			}
			if in != 1 {
				t.Errorf("%d is in %d windows of the width %d", time, in, width)
			}
		}
	}
}

// P13.2: windows follow on one another: the first begins at 0, each next one where the one ahead of it ends, and each is as wide as it should be.
func TestTheyFollow(t *testing.T) {
	for width := int64(1); width <= 1000; width++ {
		if Start(0, width) != 0 {
			t.Errorf("window 0 of the width %d begins at %d", width, Start(0, width))
		}
		for _, window := range append(about(2, 1000, last/2, last-2), last/width-1, 1<<32) {
			if End(window, width) != Start(window+1, width) && window < last {
				t.Errorf("window %d of the width %d ends at %d, the next one begins at %d", window, width, End(window, width), Start(window+1, width))
			}
			if End(window, width)-Start(window, width) != width {
				t.Errorf("window %d of the width %d is from %d to %d", window, width, Start(window, width), End(window, width))
			}
		}
	}
}

// P13.2: the time at which a window ends is the next one's, and the one ahead of that is its own.
func TestWhereTheNextBegins(t *testing.T) {
	for width := int64(1); width <= 1000; width++ {
		for _, window := range []int64{0, 1, 2, 999, 1000, 1 << 20, last/width - 1} {
			end := End(window, width)
			if got, e := Of(end, width); got != window+1 || e != api.OK {
				t.Errorf("Of(%d, %d) = %d, %d, want %d", end, width, got, e, window+1)
			}
			if got, e := Of(end-1, width); got != window || e != api.OK {
				t.Errorf("Of(%d, %d) = %d, %d, want %d", end-1, width, got, e, window)
			}
			if got, e := Of(Start(window, width), width); got != window || e != api.OK {
				t.Errorf("Of(%d, %d) = %d, %d, want %d", Start(window, width), width, got, e, window)
			}
		}
	}
}

// P13.3: what is closed is so at all later times, among them those that Tick makes.
func TestItStaysClosed(t *testing.T) {
	for _, window := range []int64{0, 1, 2, 7, 1000, last - 1, last} {
		for _, width := range []int64{1, 2, 10, 999, 1000} {
			for _, late := range []int64{0, 1, 5, 999, 1000} {
				from := End(window, width) + late
				now, closed := from-20, false
				for range 40 {
					if is := Closed(window, width, late, now); is != (now >= from) || closed && !is {
						t.Errorf("Closed(%d, %d, %d, %d) = %v, from %d on", window, width, late, now, is, from)
					} else {
						closed = is
					}
					now = Tick(now, 1)
				}
				for _, by := range []int64{0, 1, 1000, last, far - 1, far, top} {
					if later := Tick(now, by); !Closed(window, width, late, later) {
						t.Errorf("Closed(%d, %d, %d, %d) = false, and was closed at %d", window, width, late, later, from)
					}
				}
			}
		}
	}
}

// P13.3: time never goes back, as long as it isn't farther than it goes.
func TestTimeGoesOn(t *testing.T) {
	for _, now := range someNows() {
		for _, by := range someNows() {
			later := Tick(now, by)
			if now <= far && later < now {
				t.Errorf("Tick(%d, %d) = %d", now, by, later)
			}
			if later > far && by >= 0 {
				t.Errorf("Tick(%d, %d) = %d", now, by, later)
			}
		}
	}
}

// P13.3: as far as time goes on all windows are closed, by any lateness.
func TestAllAreClosedAtLast(t *testing.T) {
	for _, window := range []int64{0, 1, last / 2, last - 1, last} {
		for width := int64(1); width <= 1000; width++ {
			for _, late := range []int64{0, 1, 999, 1000} {
				if !Closed(window, width, late, Tick(0, top)) {
					t.Errorf("window %d of the width %d is never closed by the lateness %d", window, width, late)
				}
			}
		}
	}
}

// P13.3: a window is closed before the next one is: that one never without it, and at some times it is closed alone, as many as the window is wide.
func TestBeforeTheNext(t *testing.T) {
	for _, window := range []int64{0, 1, 2, 1000, last - 2, last - 1} {
		for _, width := range []int64{1, 2, 3, 10, 1000} {
			for _, late := range []int64{0, 1, 5, 1000} {
				alone, from := int64(0), Start(window, width)
				for now := from - 5; now < from+3*width+late+5; now++ {
					one, next := Closed(window, width, late, now), Closed(window+1, width, late, now)
					if next && !one {
						t.Errorf("at %d window %d of the width %d isn't closed by the lateness %d, the next one is", now, window, width, late)
					}
					if one && !next {
						alone++
					}
				}
				if alone != width {
					t.Errorf("window %d of the width %d is closed by the lateness %d at %d times ahead of the next one", window, width, late, alone)
				}
			}
		}
	}
}

// P13.1, P13.2, P13.3: the same for whatever a fuzzer finds.
func FuzzNumbers(f *testing.F) {
	for _, n := range []int64{0, 1, 25, -1, last, last + 1, far, top, low} {
		f.Add(n, int64(10), int64(5), int64(35), n)
		f.Add(n, int64(1000), int64(1000), n, int64(far-1))
		f.Add(int64(2), n, int64(0), int64(30), int64(1))
		f.Add(int64(2), int64(1), n, int64(30), int64(far))
	}
	f.Fuzz(func(t *testing.T, n, width, late, now, by int64) {
		checkOf(t, n, width)
		checkEnds(t, n, width)
		checkClosed(t, n, width, late, now)
		checkTick(t, now, by)
		if _, e := Of(n, width); e == api.OK {
			checkOneByOne(t, n, width)
		}
		if later := Tick(now, by); now <= later && Closed(n, width, late, now) && !Closed(n, width, late, later) {
			t.Errorf("Closed(%d, %d, %d, %d) = false, and was closed at %d", n, width, late, later, now)
		}
	})
}
