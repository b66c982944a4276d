package tests

import (
	"math"
	"math/rand"
	"slices"
	"testing"

	"loop.example/g00684/impl"
)

// nothing is the summary of code without instructions.
func nothing() impl.Summary {
	return summary(0, 0, -1, -1, -1)
}

func summary(total, none, head, tail, inner int) impl.Summary {
	return impl.Summary{Total: total, None: none, Head: head, Tail: tail, Inner: inner}
}

// level is a summary all of whose bounds are n.
func level(n int) impl.Summary {
	return summary(n, n, n, n, n)
}

// isSummary is the reference for SummaryOK.
func isSummary(a impl.Summary) bool {
	if a.Total < 0 || a.Total > largestValue {
		return false
	}
	for _, n := range []int{a.None, a.Head, a.Tail, a.Inner} {
		if n < -1 || n > a.Total {
			return false
		}
	}
	if (a.Head == -1) != (a.Tail == -1) {
		return false
	}
	return a.Head != -1 || a.Inner == -1 && a.None != -1
}

// sumOf is the sum of two bounds, which may be as large as a value.
func sumOf(a, b int) int {
	if a == -1 || b == -1 {
		return -1
	}
	return min(a+b, largestValue)
}

// behindOf is the reference for Behind.
func behindOf(a, b impl.Summary) impl.Summary {
	return impl.Summary{
		Total: sumOf(a.Total, b.Total),
		None:  sumOf(a.None, b.None),
		Head:  max(a.Head, sumOf(a.None, b.Head)),
		Tail:  max(b.Tail, sumOf(a.Tail, b.None)),
		Inner: max(a.Inner, b.Inner, sumOf(a.Tail, b.Head)),
	}
}

// eitherOf is the reference for Either.
func eitherOf(a, b impl.Summary) impl.Summary {
	return impl.Summary{
		Total: max(a.Total, b.Total),
		None:  max(a.None, b.None),
		Head:  max(a.Head, b.Head),
		Tail:  max(a.Tail, b.Tail),
		Inner: max(a.Inner, b.Inner),
	}
}

// boundsUpTo holds the ends of the range of a bound beside this Total, and their neighbours inside.
func boundsUpTo(total int) []int {
	list := []int{-1, 0, 1, total / 2, total - 1, total}
	list = slices.DeleteFunc(list, func(n int) bool { return n < -1 || n > total })
	slices.Sort(list)
	return slices.Compact(list)
}

func validSummariesOf(total int) []impl.Summary {
	var list []impl.Summary
	bounds := boundsUpTo(total)
	for _, none := range bounds {
		if none != -1 {
			list = append(list, summary(total, none, -1, -1, -1))
		}
		for _, head := range bounds[1:] {
			for _, tail := range bounds[1:] {
				for _, inner := range bounds {
					list = append(list, summary(total, none, head, tail, inner))
				}
			}
		}
	}
	return list
}

// validSummaries holds summaries whose fields are at the ends of their ranges and between them.
func validSummaries() []impl.Summary {
	var list []impl.Summary
	for _, total := range []int{0, 1, 2, 5, largestValue / 2, largestValue/2 + 1, largestValue - 1, largestValue} {
		list = append(list, validSummariesOf(total)...)
	}
	return list
}

// fieldsOf returns pointers to the fields in their order.
func fieldsOf(a *impl.Summary) []*int {
	return []*int{&a.Total, &a.None, &a.Head, &a.Tail, &a.Inner}
}

// invalidSummaries holds summaries with exactly one reason to be invalid, and some with several.
func invalidSummaries() []impl.Summary {
	list := []impl.Summary{level(-1), level(math.MaxInt), level(math.MinInt)}
	for _, a := range []impl.Summary{nothing(), summary(7, 7, -1, -1, -1), summary(7, -1, 3, 4, -1), summary(7, 0, 7, 0, 7), level(largestValue)} {
		for _, n := range []int{-2, -3, a.Total + 1, a.Total + 2, largestValue + 1, largestValue + 2, smallestValue, 1 << 32, 1<<32 + 1, -1 << 32, math.MinInt, math.MinInt + 1, math.MaxInt - 1, math.MaxInt} {
			for i := 1; i < 5; i++ {
				b := a
				*fieldsOf(&b)[i] = n
				list = append(list, b)
			}
			if n < 0 || n > largestValue {
				b := a
				b.Total = n
				list = append(list, b)
			}
		}
	}
	for _, n := range []int{0, 1, 4, 7} {
		list = append(list,
			summary(7, 7, n, -1, -1), summary(7, 7, -1, n, -1), summary(7, -1, n, -1, n), summary(7, -1, -1, n, n),
			summary(7, 7, -1, -1, n), summary(7, -1, -1, -1, n), summary(n, -1, -1, -1, -1))
	}
	return list
}

// edgeSummaries holds summaries, valid and invalid, few enough to take all pairs.
func edgeSummaries() []impl.Summary {
	list := []impl.Summary{nothing()}
	for i, a := range append(validSummaries(), invalidSummaries()...) {
		if i%41 == 0 {
			list = append(list, a)
		}
	}
	return append(list, level(math.MaxInt), level(math.MinInt))
}

func wantSummary(t *testing.T, what string, got impl.Summary, code int, want impl.Summary) {
	t.Helper()
	if got != want || code != 0 {
		t.Errorf("%s = %v, %d, want %v", what, got, code, want)
	}
}

// wantNoSummary expects a code with a zero result.
func wantNoSummary(t *testing.T, what string, got impl.Summary, code, want int) {
	t.Helper()
	if got != (impl.Summary{}) || code != want {
		t.Errorf("%s = %v, %d, want code %d", what, got, code, want)
	}
}

func TestSummaryOK(t *testing.T) {
	for _, v := range []struct {
		total, none, head, tail, inner int
		want                           bool
	}{
		{0, 0, -1, -1, -1, true},
		{0, 0, 0, 0, 0, true},
		{0, -1, 0, 0, -1, true},
		{-1, -1, -1, -1, -1, false},
		{-1, -1, 0, 0, -1, false},
		{largestValue, largestValue, -1, -1, -1, true},
		{largestValue, largestValue, largestValue, largestValue, largestValue, true},
		{largestValue + 1, 0, -1, -1, -1, false},
		{math.MaxInt, 0, 0, 0, 0, false},
		{math.MinInt, -1, 0, 0, -1, false},
		// None
		{5, 5, 2, 3, 1, true}, {5, -1, 2, 3, 1, true}, {5, 6, 2, 3, 1, false}, {5, -2, 2, 3, 1, false},
		{5, math.MaxInt, 2, 3, 1, false}, {5, math.MinInt, 2, 3, 1, false},
		// Head
		{5, 4, 0, 3, 1, true}, {5, 4, 5, 3, 1, true}, {5, 4, 6, 3, 1, false}, {5, 4, -2, 3, 1, false}, {5, 4, -2, -2, -1, false},
		{5, 4, math.MaxInt, 3, 1, false}, {5, 4, math.MinInt, 3, 1, false},
		// Tail
		{5, 4, 3, 0, 1, true}, {5, 4, 3, 5, 1, true}, {5, 4, 3, 6, 1, false}, {5, 4, 3, -2, 1, false},
		{5, 4, 3, math.MaxInt, 1, false}, {5, 4, 3, math.MinInt, 1, false},
		// Inner
		{5, 4, 3, 2, -1, true}, {5, 4, 3, 2, 0, true}, {5, 4, 3, 2, 5, true}, {5, 4, 3, 2, 6, false}, {5, 4, 3, 2, -2, false},
		{5, 4, 3, 2, math.MaxInt, false}, {5, 4, 3, 2, math.MinInt, false},
		// only one of Head and Tail is -1
		{5, 4, -1, 2, -1, false}, {5, 4, 3, -1, -1, false}, {5, 4, -1, 0, 1, false}, {5, 4, 0, -1, 1, false},
		// both are
		{5, 4, -1, -1, -1, true}, {5, 0, -1, -1, -1, true}, {5, 5, -1, -1, -1, true},
		{5, -1, -1, -1, -1, false}, {5, 4, -1, -1, 0, false}, {5, 4, -1, -1, 5, false}, {5, -1, -1, -1, 0, false},
		{5, 6, -1, -1, -1, false}, {5, -2, -1, -1, -1, false}, {5, 4, -1, -1, -2, false},
	} {
		a := summary(v.total, v.none, v.head, v.tail, v.inner)
		if impl.SummaryOK(a) != v.want || isSummary(a) != v.want {
			t.Errorf("SummaryOK(%v) is not %v", a, v.want)
		}
	}
}

// eachSummary calls check with all summaries whose fields are among these numbers.
func eachSummary(numbers []int, check func(impl.Summary)) {
	for i := range len(numbers) * len(numbers) * len(numbers) * len(numbers) * len(numbers) {
		var a impl.Summary
		for _, field := range fieldsOf(&a) {
			*field = numbers[i%len(numbers)]
			i /= len(numbers)
		}
		check(a)
	}
}

func TestSummaryOKByFields(t *testing.T) {
	seen := map[bool]int{}
	check := func(a impl.Summary) {
		want := isSummary(a)
		seen[want]++
		if impl.SummaryOK(a) != want {
			t.Errorf("SummaryOK(%v) is not %v", a, want)
		}
	}
	eachSummary([]int{-3, -2, -1, 0, 1, 2, 3, 4}, check)
	eachSummary([]int{math.MinInt, -2, -1, 0, largestValue - 1, largestValue, largestValue + 1, math.MaxInt}, check)
	for _, a := range validSummaries() {
		for i := range 5 {
			for _, n := range edgeInts() {
				b := a
				*fieldsOf(&b)[i] = n
				check(b)
			}
		}
	}
	if seen[true] < 1000 || seen[false] < 1000 {
		t.Error("valid and invalid summaries", seen)
	}
}

func TestListsOfSummaries(t *testing.T) {
	for _, a := range validSummaries() {
		if !isSummary(a) || !impl.SummaryOK(a) {
			t.Error("invalid", a)
		}
	}
	for _, a := range invalidSummaries() {
		if isSummary(a) || impl.SummaryOK(a) {
			t.Error("valid", a)
		}
	}
}

func TestOneCost(t *testing.T) {
	for _, n := range edgeInts() {
		plain, code := impl.OneCost(n, false)
		cut, codeOfCut := impl.OneCost(n, true)
		if n < 0 || n > largestValue {
			wantNoSummary(t, "OneCost", plain, code, impl.ErrRange)
			wantNoSummary(t, "OneCost of a cut", cut, codeOfCut, impl.ErrRange)
			continue
		}
		wantSummary(t, "OneCost", plain, code, summary(n, n, -1, -1, -1))
		wantSummary(t, "OneCost of a cut", cut, codeOfCut, summary(n, -1, n, 0, -1))
	}
	for _, v := range []struct{ n, want int }{{-1, impl.ErrRange}, {0, 0}, {2147483647, 0}, {2147483648, impl.ErrRange}} {
		for _, cut := range []bool{false, true} {
			if _, code := impl.OneCost(v.n, cut); code != v.want {
				t.Errorf("OneCost(%d, %v) has code %d, want %d", v.n, cut, code, v.want)
			}
		}
	}
}

func TestBehind(t *testing.T) {
	for _, v := range []struct{ a, b, want impl.Summary }{
		// without a cut on both sides, on the left, on the right
		{summary(3, 2, -1, -1, -1), summary(5, 4, -1, -1, -1), summary(8, 6, -1, -1, -1)},
		{summary(3, 2, -1, -1, -1), summary(9, -1, 4, 5, 1), summary(12, -1, 6, 5, 1)},
		{summary(9, -1, 4, 5, 1), summary(3, 2, -1, -1, -1), summary(12, -1, 4, 7, 1)},
		// exactly one cut on each side, so that the only section between cuts is between them
		{summary(9, -1, 4, 5, -1), summary(7, -1, 1, 6, -1), summary(16, -1, 4, 6, 6)},
		// a cut in some executions only
		{summary(9, 8, 2, 3, -1), summary(7, -1, 1, 6, -1), summary(16, -1, 9, 6, 4)},
		{summary(9, -1, 2, 3, -1), summary(7, 5, 1, 6, -1), summary(16, -1, 2, 8, 4)},
		{summary(9, 8, 2, 3, -1), summary(7, 5, 1, 6, -1), summary(16, 13, 9, 8, 4)},
		{summary(9, 0, 9, 0, -1), summary(7, 0, 1, 6, -1), summary(16, 0, 9, 6, 1)},
		// each of the three places of the longest section between cuts
		{summary(30, -1, 1, 1, 20), summary(30, -1, 1, 1, 10), summary(60, -1, 1, 1, 20)},
		{summary(30, -1, 1, 1, 10), summary(30, -1, 1, 1, 20), summary(60, -1, 1, 1, 20)},
		{summary(30, -1, 1, 9, 10), summary(30, -1, 8, 1, 11), summary(60, -1, 1, 1, 17)},
		// sections of no ticks are not missing
		{summary(0, -1, 0, 0, -1), summary(0, -1, 0, 0, -1), summary(0, -1, 0, 0, 0)},
		{summary(0, 0, -1, -1, -1), summary(0, -1, 0, 0, -1), summary(0, -1, 0, 0, -1)},
		{summary(0, 0, 0, 0, 0), summary(0, 0, 0, 0, 0), summary(0, 0, 0, 0, 0)},
	} {
		got, code := impl.Behind(v.a, v.b)
		wantSummary(t, "Behind", got, code, v.want)
		if behindOf(v.a, v.b) != v.want {
			t.Error("the reference differs for", v)
		}
	}
}

// Sums at, one below and beyond the largest value; a missing bound is missing beside the largest one too.
func TestBehindAtTheLargestValue(t *testing.T) {
	const most = 2147483647
	for _, v := range []struct{ a, b, want impl.Summary }{
		{summary(most-3, most-3, -1, -1, -1), summary(2, 2, -1, -1, -1), summary(most-1, most-1, -1, -1, -1)},
		{summary(most-3, most-3, -1, -1, -1), summary(3, 3, -1, -1, -1), summary(most, most, -1, -1, -1)},
		{summary(most-3, most-3, -1, -1, -1), summary(4, 4, -1, -1, -1), summary(most, most, -1, -1, -1)},
		{summary(most, most, -1, -1, -1), summary(1, 1, -1, -1, -1), summary(most, most, -1, -1, -1)},
		{summary(1, 1, -1, -1, -1), summary(most, most, -1, -1, -1), summary(most, most, -1, -1, -1)},
		{summary(most, most, -1, -1, -1), summary(most, most, -1, -1, -1), summary(most, most, -1, -1, -1)},
		{summary(most, most, most, most, most), summary(most, most, most, most, most), summary(most, most, most, most, most)},
		{summary(most, -1, most, most, -1), summary(most, -1, most, most, -1), summary(most, -1, most, most, most)},
		{summary(most, most, -1, -1, -1), summary(most, -1, most, 5, -1), summary(most, -1, most, 5, -1)},
		{summary(most, -1, 5, most, -1), summary(most, most, -1, -1, -1), summary(most, -1, 5, most, -1)},
		// each sum alone
		{summary(most, most-9, 1, 1, -1), summary(most, 9, 8, 1, -1), summary(most, most, most-1, 10, 9)},
		{summary(most, most-9, 1, 1, -1), summary(most, 8, 9, 1, -1), summary(most, most-1, most, 9, 10)},
		{summary(most, most-9, 1, 1, -1), summary(most, 10, 10, 1, -1), summary(most, most, most, 11, 11)},
		{summary(most, 1, 1, most-9, -1), summary(most, 8, 9, 1, -1), summary(most, 9, 10, most-1, most)},
		{summary(most, 1, 1, most-9, -1), summary(most, 9, 8, 1, -1), summary(most, 10, 9, most, most-1)},
		{summary(most, 1, 1, most-9, -1), summary(most, 10, 10, 1, -1), summary(most, 11, 11, most, most)},
	} {
		got, code := impl.Behind(v.a, v.b)
		wantSummary(t, "Behind", got, code, v.want)
		if behindOf(v.a, v.b) != v.want {
			t.Error("the reference differs for", v)
		}
	}
}

func TestEither(t *testing.T) {
	for _, v := range []struct{ a, b, want impl.Summary }{
		{summary(3, 2, -1, -1, -1), summary(5, 1, -1, -1, -1), summary(5, 2, -1, -1, -1)},
		{summary(3, 3, -1, -1, -1), summary(1, -1, 1, 0, -1), summary(3, 3, 1, 0, -1)},
		{summary(9, -1, 9, 0, -1), summary(7, -1, 0, 6, -1), summary(9, -1, 9, 6, -1)},
		{summary(9, -1, 1, 8, 3), summary(7, 6, 2, 5, 4), summary(9, 6, 2, 8, 4)},
		{summary(9, 5, 1, 8, 3), summary(7, -1, 0, 5, -1), summary(9, 5, 1, 8, 3)},
		{nothing(), nothing(), nothing()},
		{nothing(), summary(2147483647, -1, 2147483647, 2147483647, 2147483647), summary(2147483647, 0, 2147483647, 2147483647, 2147483647)},
	} {
		got, code := impl.Either(v.a, v.b)
		wantSummary(t, "Either", got, code, v.want)
		got, code = impl.Either(v.b, v.a)
		wantSummary(t, "Either the other way round", got, code, v.want)
	}
}

// What two valid summaries are combined into is valid.
func TestBehindAndEitherOfManyPairs(t *testing.T) {
	list := validSummaries()
	for i, a := range list {
		for j := i % 7; j < len(list); j += 7 {
			b := list[j]
			got, code := impl.Behind(a, b)
			if want := behindOf(a, b); got != want || code != 0 || !impl.SummaryOK(got) {
				t.Fatalf("Behind(%v, %v) = %v, %d, want %v", a, b, got, code, want)
			}
			got, code = impl.Either(a, b)
			if want := eitherOf(a, b); got != want || code != 0 || !impl.SummaryOK(got) {
				t.Fatalf("Either(%v, %v) = %v, %d, want %v", a, b, got, code, want)
			}
		}
	}
}

// behind is Behind of summaries that must be accepted.
func behind(t *testing.T, a, b impl.Summary) impl.Summary {
	t.Helper()
	c, code := impl.Behind(a, b)
	if code != 0 {
		t.Fatalf("Behind(%v, %v) has code %d", a, b, code)
	}
	return c
}

func checkAssociative(t *testing.T, a, b, c impl.Summary) {
	t.Helper()
	if left, right := behind(t, behind(t, a, b), c), behind(t, a, behind(t, b, c)); left != right {
		t.Fatalf("%v, %v and %v combine to %v and to %v", a, b, c, left, right)
	}
}

func TestBehindIsAssociative(t *testing.T) {
	small := slices.Concat(validSummariesOf(0), validSummariesOf(1))
	for _, a := range small {
		for _, b := range small {
			for _, c := range small {
				checkAssociative(t, a, b, c)
			}
		}
	}
	all := validSummaries()
	r := rand.New(rand.NewSource(21))
	for range 300000 {
		checkAssociative(t, all[r.Intn(len(all))], all[r.Intn(len(all))], all[r.Intn(len(all))])
	}
	for range 100000 {
		checkAssociative(t, randomSummary(r), randomSummary(r), randomSummary(r))
	}
}

func randomSummary(r *rand.Rand) impl.Summary {
	total := r.Intn(1 << (1 + r.Intn(31)))
	a := summary(total, r.Intn(total+1), -1, -1, -1)
	if r.Intn(4) > 0 {
		a.Head, a.Tail, a.Inner = r.Intn(total+1), r.Intn(total+1), r.Intn(total+2)-1
		a.None = r.Intn(total+2) - 1
	}
	return a
}

// No ticks before or behind a summary change nothing.
func TestNothingBeforeAndBehind(t *testing.T) {
	none, code := impl.OneCost(0, false)
	wantSummary(t, "OneCost(0, false)", none, code, nothing())
	for _, a := range validSummaries() {
		if before, after := behind(t, none, a), behind(t, a, none); before != a || after != a {
			t.Errorf("nothing before %v is %v, and behind it %v", a, before, after)
		}
	}
}

func TestTimes(t *testing.T) {
	const most = 2147483647
	for _, v := range []struct {
		a    impl.Summary
		n    int
		want impl.Summary
	}{
		{summary(3, 2, -1, -1, -1), 0, summary(0, 0, -1, -1, -1)},
		{summary(3, 2, -1, -1, -1), 1, summary(3, 2, -1, -1, -1)},
		{summary(3, 2, -1, -1, -1), 2, summary(6, 4, -1, -1, -1)},
		{summary(3, 2, -1, -1, -1), 20, summary(60, 40, -1, -1, -1)},
		// a cut in every execution: there is a section between cuts from the second copy on
		{summary(7, -1, 3, 4, -1), 0, summary(0, 0, -1, -1, -1)},
		{summary(7, -1, 3, 4, -1), 1, summary(7, -1, 3, 4, -1)},
		{summary(7, -1, 3, 4, -1), 2, summary(14, -1, 3, 4, 7)},
		{summary(7, -1, 3, 4, -1), 20, summary(140, -1, 3, 4, 7)},
		{summary(20, -1, 3, 4, 13), 1, summary(20, -1, 3, 4, 13)},
		{summary(20, -1, 3, 4, 13), 20, summary(400, -1, 3, 4, 13)},
		// a cut in some executions: all copies before the first cut may be without one
		{summary(7, 5, 3, 4, -1), 0, summary(0, 0, -1, -1, -1)},
		{summary(7, 5, 3, 4, -1), 1, summary(7, 5, 3, 4, -1)},
		{summary(7, 5, 3, 4, -1), 2, summary(14, 10, 8, 9, 7)},
		{summary(7, 5, 3, 4, -1), 3, summary(21, 15, 13, 14, 12)},
		{summary(7, 5, 3, 4, -1), 20, summary(140, 100, 98, 99, 97)},
		// beyond the largest value
		{summary(most, most, -1, -1, -1), 0, summary(0, 0, -1, -1, -1)},
		{summary(most, most, -1, -1, -1), 1, summary(most, most, -1, -1, -1)},
		{summary(most, most, -1, -1, -1), 20, summary(most, most, -1, -1, -1)},
		{summary(most, -1, most, most, -1), 20, summary(most, -1, most, most, most)},
		{summary(107374182, 107374182, -1, -1, -1), 20, summary(2147483640, 2147483640, -1, -1, -1)},
		{summary(107374183, 107374182, -1, -1, -1), 20, summary(most, 2147483640, -1, -1, -1)},
		{summary(0, 0, 0, 0, 0), 20, summary(0, 0, 0, 0, 0)},
	} {
		got, code := impl.Times(v.a, v.n)
		wantSummary(t, "Times", got, code, v.want)
	}
}

// n repetitions are n copies in sequence, begun at either end.
func TestTimesIsCopiesInSequence(t *testing.T) {
	for _, a := range validSummaries() {
		before, after := nothing(), nothing()
		for n := range 21 {
			got, code := impl.Times(a, n)
			if code != 0 || got != before || got != after {
				t.Fatalf("Times(%v, %d) = %v, %d, want %v and %v", a, n, got, code, before, after)
			}
			before, after = behind(t, before, a), behind(t, a, after)
		}
	}
}

func TestTimesOutOfRange(t *testing.T) {
	numbers := append(edgeInts(), 20, 21, -1, 1<<32+1)
	for _, a := range edgeSummaries() {
		for _, n := range numbers {
			got, code := impl.Times(a, n)
			switch {
			case !isSummary(a):
				wantNoSummary(t, "Times of an invalid summary", got, code, impl.ErrBad)
			case n < 0 || n > 20:
				wantNoSummary(t, "Times out of range", got, code, impl.ErrRange)
			case code != 0:
				t.Errorf("Times(%v, %d) has code %d", a, n, code)
			}
		}
	}
}

func TestTimesWithInvalidSummaryAndNumber(t *testing.T) {
	bad := summary(1, 2, -1, -1, -1)
	for _, v := range []struct {
		a       impl.Summary
		n, want int
	}{
		{bad, -1, impl.ErrBad}, {bad, 21, impl.ErrBad}, {bad, 0, impl.ErrBad}, {bad, 20, impl.ErrBad},
		{nothing(), -1, impl.ErrRange}, {nothing(), 21, impl.ErrRange}, {nothing(), math.MaxInt, impl.ErrRange}, {nothing(), math.MinInt, impl.ErrRange},
	} {
		got, code := impl.Times(v.a, v.n)
		wantNoSummary(t, "Times", got, code, v.want)
	}
}

func TestInvalidSummaries(t *testing.T) {
	valid := []impl.Summary{nothing(), summary(7, 5, 3, 4, -1), summary(largestValue, -1, largestValue, 0, 1)}
	for _, bad := range invalidSummaries() {
		for _, a := range append(valid, bad) {
			got, code := impl.Behind(a, bad)
			wantNoSummary(t, "Behind", got, code, impl.ErrBad)
			got, code = impl.Behind(bad, a)
			wantNoSummary(t, "Behind", got, code, impl.ErrBad)
			got, code = impl.Either(a, bad)
			wantNoSummary(t, "Either", got, code, impl.ErrBad)
			got, code = impl.Either(bad, a)
			wantNoSummary(t, "Either", got, code, impl.ErrBad)
		}
		got, code := impl.Times(bad, 0)
		wantNoSummary(t, "Times", got, code, impl.ErrBad)
		if n, code := impl.LongestOf(bad); n != 0 || code != impl.ErrBad {
			t.Errorf("LongestOf(%v) = %d, %d", bad, n, code)
		}
	}
}

func TestLongestOf(t *testing.T) {
	for _, v := range []struct {
		a    impl.Summary
		want int
	}{
		{nothing(), 0},
		{summary(9, 8, -1, -1, -1), 8},
		{summary(9, -1, 8, 7, 6), 8},
		{summary(9, -1, 7, 8, 6), 8},
		{summary(9, 5, 7, 6, 8), 8},
		{summary(9, 8, 7, 6, 5), 8},
		{summary(9, -1, 0, 0, -1), 0},
		{summary(2147483647, -1, 0, 2147483647, -1), 2147483647},
	} {
		if n, code := impl.LongestOf(v.a); n != v.want || code != 0 {
			t.Errorf("LongestOf(%v) = %d, %d, want %d", v.a, n, code, v.want)
		}
	}
	for _, a := range validSummaries() {
		want := slices.Max([]int{a.None, a.Head, a.Tail, a.Inner})
		if n, code := impl.LongestOf(a); n != want || code != 0 {
			t.Errorf("LongestOf(%v) = %d, %d, want %d", a, n, code, want)
		}
	}
}
