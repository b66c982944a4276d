package tests

import (
	"math"
	"math/big"
	"math/rand"
	"testing"

	"loop.example/g00684/impl"
)

// exact is the reference: integer arithmetic without a limit; nil if there is no result.
func exact(op, a, b int) *big.Int {
	x, y, z := big.NewInt(int64(a)), big.NewInt(int64(b)), new(big.Int)
	switch op {
	case 0:
		return z.Add(x, y)
	case 1:
		return z.Sub(x, y)
	case 2:
		return z.Mul(x, y)
	}
	if b == 0 {
		return nil
	}
	return z.Quo(x, y)
}

func checkArithmetic(t *testing.T, op, a, b int) {
	t.Helper()
	n, wrong, code := impl.Checked(op, a, b)
	if op < 0 || op > 3 || !isValue(a) || !isValue(b) {
		if n != 0 || wrong || code != impl.ErrRange {
			t.Errorf("Checked(%d, %d, %d) = %d, %t, %d, want ErrRange", op, a, b, n, wrong, code)
		}
		return
	}
	want := exact(op, a, b)
	if want == nil || !want.IsInt64() || !isValue(int(want.Int64())) {
		if n != 0 || !wrong || code != impl.OK {
			t.Errorf("Checked(%d, %d, %d) = %d, %t, %d, want a failed operation", op, a, b, n, wrong, code)
		}
		return
	}
	if n != int(want.Int64()) || wrong || code != impl.OK {
		t.Errorf("Checked(%d, %d, %d) = %d, %t, %d, want %v", op, a, b, n, wrong, code, want)
	}
}

func TestCheckedOfSmallValues(t *testing.T) {
	for op := range 4 {
		for a := -130; a <= 130; a++ {
			for b := -130; b <= 130; b++ {
				checkArithmetic(t, op, a, b)
			}
		}
	}
}

func TestCheckedAtEdges(t *testing.T) {
	list := append(edgeInts(), 46340, 46341, -46340, -46341, largestValue/2, largestValue/2+1, smallestValue/2, smallestValue/2-1, 65535, 65537, 3037000499, 3037000500)
	for _, op := range []int{0, 1, 2, 3, -1, 4, 5, 256, 259, 1 << 32, 1<<32 + 3, -1 << 32, math.MinInt, math.MaxInt} {
		for _, a := range list {
			for _, b := range list {
				checkArithmetic(t, op, a, b)
			}
		}
	}
}

func TestCheckedOfManyValues(t *testing.T) {
	r := rand.New(rand.NewSource(1))
	for range 100000 {
		a, b := int(int32(r.Uint32())), int(int32(r.Uint32()))
		small := b >> r.Intn(32)
		for op := range 4 {
			checkArithmetic(t, op, a, b)
			checkArithmetic(t, op, a, small)
			checkArithmetic(t, op, small, a)
		}
	}
}

func TestCheckedDivision(t *testing.T) {
	for i, v := range []struct {
		a, b, n int
		wrong   bool
	}{
		{7, 2, 3, false},
		{-7, 2, -3, false},
		{7, -2, -3, false},
		{-7, -2, 3, false},
		{1, 2, 0, false},
		{-1, 2, 0, false},
		{1, -2, 0, false},
		{0, 5, 0, false},
		{0, -5, 0, false},
		{7, 0, 0, true},
		{-7, 0, 0, true},
		{0, 0, 0, true},
		{smallestValue, 0, 0, true},
		{largestValue, 0, 0, true},
		{smallestValue, -1, 0, true},
		{smallestValue, 1, smallestValue, false},
		{smallestValue + 1, -1, largestValue, false},
		{largestValue, -1, -largestValue, false},
		{smallestValue, 2, -1073741824, false},
		{smallestValue, -2, 1073741824, false},
		{smallestValue, smallestValue, 1, false},
		{largestValue, smallestValue, 0, false},
		{smallestValue, largestValue, -1, false},
	} {
		if n, wrong, code := impl.Checked(3, v.a, v.b); n != v.n || wrong != v.wrong || code != impl.OK {
			t.Errorf("%d: Checked(3, %d, %d) = %d, %t, %d", i, v.a, v.b, n, wrong, code)
		}
	}
}

// An invalid operand is reported, not computed with, even where the result would be a value.
func TestCheckedOfOtherNumbers(t *testing.T) {
	for _, v := range [][3]int{
		{0, 2147483648, -1},
		{0, -1, 2147483648},
		{1, 2147483648, 1},
		{1, 0, -2147483649},
		{2, 2147483648, 0},
		{2, 0, -2147483649},
		{3, 2147483648, 2},
		{3, 1, 2147483648},
		{3, 2147483648, 0},
		{3, math.MinInt, -1},
		{3, math.MinInt, 0},
		{2, math.MinInt, -1},
		{1, math.MinInt, math.MinInt},
		{4, 1, 0},
		{-1, 1, 1},
	} {
		if n, wrong, code := impl.Checked(v[0], v[1], v[2]); n != 0 || wrong || code != impl.ErrRange {
			t.Errorf("Checked(%d, %d, %d) = %d, %t, %d", v[0], v[1], v[2], n, wrong, code)
		}
	}
}
