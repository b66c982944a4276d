package tests

import (
	"math"
	"math/rand"
	"slices"
	"testing"

	"loop.example/g00684/impl"
)

// largestTime is MaxTime, written out.
const largestTime = 5000

// countedBusy is the reference for BusyPeriod: it tries one number of ticks after the other. It returns 0 if there is none.
func countedBusy(costs, periods []int, blocking int) int {
	for n := 1; n <= largestTime; n++ {
		work := blocking
		for i, cost := range costs {
			work += cost * (n / periods[i])
			if n%periods[i] > 0 {
				work += cost
			}
		}
		if work <= n {
			return n
		}
	}
	return 0
}

// workedOff works one tick after the other, until no released work is left; what is released then comes too late to count.
// It returns 0 if that takes too long.
func workedOff(costs, periods []int, blocking int) int {
	left := blocking
	for now := range largestTime {
		for i, cost := range costs {
			if now%periods[i] == 0 {
				left += cost
			}
		}
		left = max(left-1, 0)
		if left == 0 {
			return now + 1
		}
	}
	return 0
}

func wantBusy(t *testing.T, costs, periods []int, blocking, n, code int) {
	t.Helper()
	if got, c := impl.BusyPeriod(costs, periods, blocking); got != n || c != code {
		t.Errorf("BusyPeriod(%s, %s, %d) = %d, %d, want %d, %d", brief(costs), brief(periods), blocking, got, c, n, code)
	}
}

// wantPeriod expects ErrLoad if n is 0.
func wantPeriod(t *testing.T, costs, periods []int, blocking, n int) {
	t.Helper()
	code := impl.OK
	if n == 0 {
		code = impl.ErrLoad
	}
	wantBusy(t, costs, periods, blocking, n, code)
}

// checkBusy takes arguments in their ranges and returns the period.
func checkBusy(t *testing.T, costs, periods []int, blocking int) int {
	t.Helper()
	n := countedBusy(costs, periods, blocking)
	if m := workedOff(costs, periods, blocking); m != n {
		t.Fatalf("for %v, %v and %d the count is %d, but the work is done at %d", costs, periods, blocking, n, m)
	}
	wantPeriod(t, costs, periods, blocking, n)
	return n
}

type busyRow struct {
	costs, periods []int
	blocking, want int
}

func checkBusyRows(t *testing.T, list []busyRow) {
	t.Helper()
	for _, v := range list {
		if n := checkBusy(t, v.costs, v.periods, v.blocking); n != v.want {
			t.Errorf("for %v, %v and %d the count is %d, want %d", v.costs, v.periods, v.blocking, n, v.want)
		}
	}
}

func TestBusyPeriodWithoutTasks(t *testing.T) {
	for _, none := range [][]int{nil, {}} {
		wantPeriod(t, none, none, 0, 1)
		for n := 1; n <= largestTime; n++ {
			wantPeriod(t, none, none, n, n)
		}
	}
	// Tasks that cost nothing change nothing.
	checkBusyRows(t, []busyRow{
		{[]int{0}, []int{1}, 0, 1}, {[]int{0}, []int{5000}, 1, 1}, {[]int{0, 0, 0, 0, 0}, []int{1, 2, 3, 4, 5000}, 0, 1},
		{[]int{0}, []int{1}, 2, 2}, {[]int{0, 0}, []int{1, 3}, 5000, 5000},
	})
}

// A release at the end of the period is not part of it, one a tick before that is.
func TestBusyPeriodAtReleases(t *testing.T) {
	checkBusyRows(t, []busyRow{
		{[]int{11}, []int{40}, 8, 19}, {[]int{11, 28}, []int{40, 100}, 0, 39},
		{[]int{3}, []int{5}, 1, 4}, {[]int{3}, []int{5}, 2, 5}, {[]int{3}, []int{5}, 3, 9}, {[]int{3}, []int{5}, 4, 10}, {[]int{3}, []int{5}, 5, 14},
		{[]int{5}, []int{10}, 4, 9}, {[]int{5}, []int{10}, 5, 10}, {[]int{5}, []int{10}, 6, 16}, {[]int{5}, []int{10}, 10, 20}, {[]int{5}, []int{10}, 11, 26},
		{[]int{1, 4}, []int{5, 9}, 0, 5}, {[]int{1, 4}, []int{5, 9}, 1, 7}, {[]int{1, 4}, []int{5, 9}, 3, 9}, {[]int{1, 4}, []int{5, 9}, 4, 15},
		{[]int{2, 3}, []int{4, 9}, 0, 7}, {[]int{2, 3}, []int{4, 9}, 1, 8}, {[]int{2, 3}, []int{4, 9}, 2, 16},
		{[]int{2, 2, 2}, []int{6, 7, 8}, 0, 6}, {[]int{2, 2, 2}, []int{7, 7, 7}, 1, 7}, {[]int{2, 2, 2}, []int{8, 8, 8}, 3, 15},
		{[]int{1, 1, 1, 1, 1}, []int{5, 6, 7, 8, 9}, 0, 5}, {[]int{1, 1, 1, 1, 1}, []int{5, 6, 7, 8, 9}, 1, 12},
	})
}

func TestBusyPeriodByLoad(t *testing.T) {
	checkBusyRows(t, []busyRow{
		// a load of exactly one
		{[]int{1}, []int{1}, 0, 1}, {[]int{4}, []int{4}, 0, 4}, {[]int{4}, []int{4}, 1, 0}, {[]int{1}, []int{1}, 1, 0}, {[]int{4, 0}, []int{4, 1}, 0, 4},
		{[]int{1, 1}, []int{2, 2}, 0, 2}, {[]int{1, 1}, []int{2, 2}, 1, 0}, {[]int{2, 2, 2}, []int{6, 6, 6}, 0, 6}, {[]int{2, 2, 2}, []int{6, 6, 6}, 5000, 0},
		{[]int{1, 1, 1}, []int{2, 4, 4}, 0, 4}, {[]int{1, 1, 1}, []int{2, 3, 6}, 0, 6}, {[]int{1, 1, 1}, []int{2, 3, 6}, 1, 0},
		{[]int{5000}, []int{5000}, 0, 5000}, {[]int{5000}, []int{5000}, 1, 0}, {[]int{1000, 1000, 1000, 1000, 1000}, []int{5000, 5000, 5000, 5000, 5000}, 0, 5000},
		{[]int{1500, 1000}, []int{3000, 2000}, 0, 0}, {[]int{1250, 1250}, []int{2500, 2500}, 0, 2500},
		// more than one
		{[]int{5}, []int{4}, 0, 0}, {[]int{2}, []int{1}, 0, 0}, {[]int{5000}, []int{1}, 5000, 0}, {[]int{5000}, []int{4999}, 0, 0},
		{[]int{1, 1}, []int{1, 5000}, 0, 0}, {[]int{1, 1, 1}, []int{2, 3, 5}, 0, 0}, {[]int{5000, 5000, 5000, 5000, 5000}, []int{1, 1, 1, 1, 1}, 5000, 0},
		{[]int{1001, 1000, 1000, 1000, 1000}, []int{5000, 5000, 5000, 5000, 5000}, 0, 0},
		// just less than one
		{[]int{4999}, []int{5000}, 0, 4999}, {[]int{4}, []int{5}, 0, 4}, {[]int{4}, []int{5}, 1, 5}, {[]int{4}, []int{5}, 2, 10}, {[]int{4}, []int{5}, 1000, 5000}, {[]int{4}, []int{5}, 1001, 0},
		{[]int{1, 1, 1}, []int{2, 3, 7}, 0, 6}, {[]int{1, 1, 1}, []int{2, 3, 7}, 1, 42},
	})
}

func TestBusyPeriodAtTheLargestTime(t *testing.T) {
	checkBusyRows(t, []busyRow{
		{nil, nil, 5000, 5000}, {[]int{0}, []int{1}, 5000, 5000}, {[]int{1}, []int{5000}, 5000, 0}, {[]int{1}, []int{5000}, 4999, 5000}, {[]int{1}, []int{4999}, 4999, 0}, {[]int{1}, []int{4999}, 4998, 4999},
		{[]int{4999}, []int{5000}, 1, 5000}, {[]int{4999}, []int{5000}, 2, 0}, {[]int{5000}, []int{5000}, 5000, 0},
		{[]int{1}, []int{2}, 2499, 4998}, {[]int{1}, []int{2}, 2500, 5000}, {[]int{1}, []int{2}, 2501, 0},
		{[]int{2500, 2500}, []int{5000, 5000}, 0, 5000}, {[]int{2500, 2501}, []int{5000, 5000}, 0, 0}, {[]int{2500, 2499}, []int{5000, 5000}, 1, 5000}, {[]int{2500, 2499}, []int{5000, 4999}, 0, 4999}, {[]int{2500, 2499}, []int{5000, 4999}, 1, 0},
		{[]int{999, 1000, 1000, 1000, 1000}, []int{5000, 5000, 5000, 5000, 5000}, 1, 5000}, {[]int{999, 1000, 1000, 1000, 1000}, []int{5000, 5000, 5000, 5000, 5000}, 2, 0},
	})
}

func TestBusyPeriodOfSmallTasks(t *testing.T) {
	for cost := range 9 {
		for period := 1; period < 9; period++ {
			for _, blocking := range []int{0, 1, 2, 3, 4, 5, 6, 7, 8, 4999, 5000} {
				checkBusy(t, []int{cost}, []int{period}, blocking)
			}
			for other := range 5 {
				for next := 1; next < 7; next++ {
					for blocking := range 3 {
						checkBusy(t, []int{cost, other}, []int{period, next}, blocking)
					}
				}
			}
		}
	}
}

// drawnTime is as often of few digits as of many.
func drawnTime(r *rand.Rand) int {
	return 1 + r.Intn([]int{3, 10, 30, 100, 300, 1000, 3000, largestTime}[r.Intn(8)])
}

// drawnWork returns n tasks of which a good part can be executed.
func drawnWork(r *rand.Rand, n int) (costs, periods []int) {
	for range n {
		period := drawnTime(r)
		costs = append(costs, min(r.Intn(2*period/n+2), largestTime))
		periods = append(periods, period)
	}
	return costs, periods
}

func TestBusyPeriodOfDrawnTasks(t *testing.T) {
	r := rand.New(rand.NewSource(101))
	for tasks := range 6 {
		found := 0
		for range 1000 {
			costs, periods := drawnWork(r, tasks)
			blocking := []int{0, 0, r.Intn(10), drawnTime(r), 5000}[r.Intn(5)]
			n := checkBusy(t, costs, periods, blocking)
			if n > 0 {
				found++
			}
			// The order of the tasks does not matter.
			slices.Reverse(costs)
			slices.Reverse(periods)
			wantPeriod(t, costs, periods, blocking, n)
		}
		if found < 200 || tasks > 0 && found > 900 {
			t.Error("with", tasks, "tasks there are", found, "periods")
		}
	}
}

// notWork holds numbers out of the range of costs and of blocking; 0 is besides out of that of periods.
func notWork() []int {
	return slices.DeleteFunc(append(edgeInts(), -5000, 4999, 5001, 5002, 1<<32+1, 1<<32+5000), func(n int) bool { return n >= 0 && n <= largestTime })
}

func TestBusyPeriodOutOfRange(t *testing.T) {
	for _, n := range notWork() {
		for tasks := 1; tasks <= 5; tasks++ {
			for i := range tasks {
				costs, periods := slices.Repeat([]int{1}, tasks), slices.Repeat([]int{9}, tasks)
				costs[i] = n
				wantBusy(t, costs, periods, 0, 0, impl.ErrRange)
				// beside a load that is too much
				wantBusy(t, costs, slices.Repeat([]int{1}, tasks), 5000, 0, impl.ErrRange)
				costs[i] = 1
				for _, period := range []int{n, 0} {
					periods[i] = period
					wantBusy(t, costs, periods, 0, 0, impl.ErrRange)
					wantBusy(t, slices.Repeat([]int{5000}, tasks), periods, 5000, 0, impl.ErrRange)
				}
			}
		}
		wantBusy(t, nil, nil, n, 0, impl.ErrRange)
		wantBusy(t, []int{1}, []int{9}, n, 0, impl.ErrRange)
		wantBusy(t, []int{5}, []int{4}, n, 0, impl.ErrRange)
	}
	for _, n := range []int{0, 1, 4999, 5000} {
		checkBusy(t, []int{n}, []int{5000}, 0)
		checkBusy(t, []int{0, 1}, []int{1, max(n, 1)}, n)
	}
}

// Lists of lengths that have several errors, with contents that have one too.
func TestBusyPeriodOrder(t *testing.T) {
	for _, v := range []struct{ costs, periods, want int }{
		{longestList + 1, longestList + 1, impl.ErrLong}, {longestList + 1, longestList, impl.ErrLong}, {longestList, longestList + 1, impl.ErrLong},
		{longestList + 1, 0, impl.ErrLong}, {0, longestList + 1, impl.ErrLong}, {longestList + 1, 5, impl.ErrLong}, {5, longestList + 1, impl.ErrLong}, {20000, 20000, impl.ErrLong},
		{0, 1, impl.ErrSize}, {1, 0, impl.ErrSize}, {4, 5, impl.ErrSize}, {5, 4, impl.ErrSize}, {5, 6, impl.ErrSize}, {6, 5, impl.ErrSize}, {6, 7, impl.ErrSize}, {7, 6, impl.ErrSize},
		{longestList, longestList - 1, impl.ErrSize}, {longestList - 1, longestList, impl.ErrSize}, {longestList, 0, impl.ErrSize}, {0, longestList, impl.ErrSize},
		{6, 6, impl.ErrMany}, {7, 7, impl.ErrMany}, {256, 256, impl.ErrMany}, {longestList, longestList, impl.ErrMany},
		{1, 1, impl.ErrRange}, {5, 5, impl.ErrRange},
	} {
		for _, cost := range []int{-1, 5001, math.MinInt, math.MaxInt} {
			for _, period := range []int{0, 5001, math.MinInt, math.MaxInt} {
				for _, blocking := range []int{0, -1, 5001, math.MinInt, math.MaxInt} {
					wantBusy(t, slices.Repeat([]int{cost}, v.costs), slices.Repeat([]int{period}, v.periods), blocking, 0, v.want)
				}
			}
		}
		if v.want != impl.ErrRange {
			// nothing else is wrong, and nothing but the load
			wantBusy(t, make([]int, v.costs), slices.Repeat([]int{1}, v.periods), 0, 0, v.want)
			wantBusy(t, slices.Repeat([]int{2}, v.costs), slices.Repeat([]int{1}, v.periods), 0, 0, v.want)
		}
	}
}
