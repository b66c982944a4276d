package tests

import (
	"slices"
	"testing"

	"loop.example/g00684/impl"
)

// pinsOn returns eight pins of which those in list are true.
func pinsOn(list ...int) []bool {
	pins := make([]bool, 8)
	for _, i := range list {
		pins[i] = true
	}
	return pins
}

// pinsByBits returns the pins of a number, pin 0 in the least significant bit.
func pinsByBits(n int) []bool {
	pins := make([]bool, 8)
	for i := range pins {
		pins[i] = n>>i&1 == 1
	}
	return pins
}

func wantRises(t *testing.T, old, now []bool, want []int, code int) {
	t.Helper()
	if list, c := impl.RisesOf(old, now); !slices.Equal(list, want) || c != code {
		t.Errorf("RisesOf(%s, %s) = %v, %d, want %v, %d", brief(old), brief(now), list, c, want, code)
	}
}

func TestRisesOf(t *testing.T) {
	all := []int{0, 1, 2, 3, 4, 5, 6, 7}
	wantRises(t, pinsOn(), pinsOn(), nil, impl.OK)
	wantRises(t, pinsOn(all...), pinsOn(all...), nil, impl.OK)
	wantRises(t, pinsOn(), pinsOn(all...), all, impl.OK)
	wantRises(t, pinsOn(all...), pinsOn(), nil, impl.OK)
	for _, i := range all {
		others := slices.Delete(slices.Clone(all), i, i+1)
		wantRises(t, pinsOn(), pinsOn(i), []int{i}, impl.OK)
		wantRises(t, pinsOn(others...), pinsOn(all...), []int{i}, impl.OK)
		wantRises(t, pinsOn(others...), pinsOn(i), []int{i}, impl.OK)
		wantRises(t, pinsOn(i), pinsOn(), nil, impl.OK)
		wantRises(t, pinsOn(i), pinsOn(i), nil, impl.OK)
		wantRises(t, pinsOn(all...), pinsOn(others...), nil, impl.OK)
		wantRises(t, pinsOn(i), pinsOn(all...), others, impl.OK)
		wantRises(t, pinsOn(i), pinsOn(others...), others, impl.OK)
	}
	wantRises(t, pinsOn(1, 3), pinsOn(0, 3, 7), []int{0, 7}, impl.OK)
	wantRises(t, pinsOn(0, 2, 4, 6), pinsOn(1, 3, 5, 7), []int{1, 3, 5, 7}, impl.OK)
}

func TestRisesOfAllPins(t *testing.T) {
	for old := range 256 {
		for now := range 256 {
			var want []int
			for i := range 8 {
				if bits := now &^ old; bits>>i%2 == 1 {
					want = append(want, i)
				}
			}
			wantRises(t, pinsByBits(old), pinsByBits(now), want, impl.OK)
		}
	}
}

func TestRisesOfOtherLengths(t *testing.T) {
	lengths := []int{0, 1, 7, 8, 9, 16, 255, 256, 264, longestList - 1, longestList}
	for _, a := range lengths {
		for _, b := range lengths {
			if a != 8 || b != 8 {
				wantRises(t, make([]bool, a), slices.Repeat([]bool{true}, b), nil, impl.ErrSize)
			}
		}
		// A list that is too long for an argument comes first.
		for _, n := range []int{longestList + 1, 20000} {
			wantRises(t, make([]bool, a), make([]bool, n), nil, impl.ErrLong)
			wantRises(t, make([]bool, n), make([]bool, a), nil, impl.ErrLong)
			wantRises(t, make([]bool, n), make([]bool, n), nil, impl.ErrLong)
		}
	}
	wantRises(t, nil, nil, nil, impl.ErrSize)
	wantRises(t, nil, pinsOn(1), nil, impl.ErrSize)
	wantRises(t, pinsOn(1), nil, nil, impl.ErrSize)
	wantRises(t, pinsOn(1), []bool{}, nil, impl.ErrSize)
	wantRises(t, nil, make([]bool, longestList+1), nil, impl.ErrLong)
	// Only the eight elements of a longer list that were passed count.
	longer := slices.Repeat([]bool{true}, 20)
	wantRises(t, make([]bool, 20)[3:11], longer[5:13], []int{0, 1, 2, 3, 4, 5, 6, 7}, impl.OK)
}
