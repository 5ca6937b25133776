package tests

import (
	"math"
	"math/big"
	"slices"
	"testing"

	"loop.example/g01027/impl"
)

const (
	modulus  = 2147483647
	mostDrew = 200
)

// refMod returns a value of big.Int modulo the modulus.
func refMod(n *big.Int) int64 {
	return new(big.Int).Mod(n, big.NewInt(modulus)).Int64()
}

func refProduct(a, b int64) *big.Int {
	return new(big.Int).Mul(big.NewInt(a), big.NewInt(b))
}

// refNext is an independent next state, without any limit of int64.
func refNext(state int64) int64 {
	return refMod(refProduct(state, 48271))
}

// refNumber is the number below n for a state that has been reached.
func refNumber(state, n int64) int64 {
	return new(big.Int).Quo(refProduct(state, n), big.NewInt(modulus)).Int64()
}

// refShuffle draws from the numbers that are left: the first of them takes the place of the drawn one.
func refShuffle(state, n int64) []int64 {
	var left, drawn []int64
	for x := int64(0); x < n; x++ {
		left = append(left, x)
	}
	for len(left) > 1 {
		state = refNext(state)
		k := refNumber(state, int64(len(left)))
		drawn = append(drawn, left[k])
		left[k] = left[0]
		left = left[1:]
	}
	return append(drawn, left...)
}

func refCommitment(state, salt int64) int64 {
	inner := new(big.Int).Add(refProduct(state, 16807), big.NewInt(salt))
	outer := new(big.Int).Add(refProduct(refMod(inner), 65539), big.NewInt(state))
	return refMod(outer)
}

// saltFor returns the only salt with which a state has a commitment in 0..modulus - 1.
func saltFor(commitment, state int64) int64 {
	inverse := new(big.Int).ModInverse(big.NewInt(65539), big.NewInt(modulus))
	inner := new(big.Int).Mul(big.NewInt(commitment-state), inverse)
	return refMod(inner.Sub(inner, refProduct(state, 16807)))
}

// someStates returns states at both ends, around powers of two, and some others.
func someStates() []int64 {
	states := []int64{1, 2, 3, 4, 10, 44487, 44488, 44489, 12345, 1 << 30, 1<<30 - 1, 1<<30 + 1, modulus / 3}
	states = append(states, modulus-1, modulus-2, modulus-3, 1899818559, 247665088)
	for s := int64(1); len(states) < 60; {
		s = s * 69621 % modulus
		states = append(states, s)
	}
	return states
}

func noStates() []int64 {
	return []int64{0, modulus, -1, modulus + 1, 2 * modulus, 2*modulus + 1, -modulus, -modulus + 1, math.MinInt64, math.MaxInt64}
}

func someSalts() []int64 {
	return []int64{0, 1, 2, 16807, 65539, 67890, 1 << 30, modulus - 2, modulus - 1}
}

func noSalts() []int64 {
	return []int64{-1, modulus, modulus + 1, -modulus, math.MinInt64, math.MaxInt64}
}

// notDrawn returns numbers that no shuffle has.
func notDrawn() []int64 {
	return []int64{-1, mostDrew + 1, -mostDrew, math.MinInt64, math.MaxInt64}
}

func TestConstants3(t *testing.T) {
	if impl.MaxDrawn != 200 || impl.Modulus != 2147483647 {
		t.Errorf("constants are %d and %d, want 200 and 2147483647", impl.MaxDrawn, impl.Modulus)
	}
}

func TestNextState(t *testing.T) {
	for _, state := range someStates() {
		got, code := impl.NextState(state)
		if want := refNext(state); got != want || code != impl.ErrNone {
			t.Errorf("NextState of %d is %d, %d, want %d", state, got, code, want)
		}
	}
	cases := [][2]int64{{1, 48271}, {48271, 182605794}, {12345, 595905495}, {modulus - 1, 2147435376}, {1899818559, 1}, {247665088, modulus - 1}}
	for _, c := range cases {
		if got, code := impl.NextState(c[0]); got != c[1] || code != impl.ErrNone {
			t.Errorf("NextState of %d is %d, %d, want %d", c[0], got, code, c[1])
		}
	}
	for _, state := range noStates() {
		if got, code := impl.NextState(state); got != 0 || code != impl.ErrRange {
			t.Errorf("NextState of %d is %d, %d, want ErrRange", state, got, code)
		}
	}
}

// The 10000th state behind 1 is published for this generator.
func TestNextStateFarOn(t *testing.T) {
	state := int64(1)
	for range 10000 {
		next, code := impl.NextState(state)
		if code != impl.ErrNone || next < 1 || next >= modulus {
			t.Fatalf("NextState of %d is %d, %d", state, next, code)
		}
		state = next
	}
	if state != 399268537 {
		t.Errorf("the 10000th state is %d, want 399268537", state)
	}
}

func TestNumberBelow(t *testing.T) {
	below := []int64{1, 2, 3, 7, 10, 199, 200, 201, 1000, 65536, 999999, 1000000}
	for _, state := range append(someStates(), 1899818559, 247665088) {
		for _, n := range below {
			got, next, code := impl.NumberBelow(state, n)
			wantNext := refNext(state)
			if got != refNumber(wantNext, n) || next != wantNext || code != impl.ErrNone || got < 0 || got >= n {
				t.Errorf("NumberBelow of %d, %d is %d, %d, %d", state, n, got, next, code)
			}
		}
	}
	cases := [][4]int64{
		{1, 10, 0, 48271}, {1, 1, 0, 48271}, {1, 1000000, 22, 48271}, {12345, 10, 2, 595905495},
		{12345, 1000000, 277490, 595905495}, {modulus - 1, 10, 9, 2147435376}, {modulus - 1, 1000000, 999977, 2147435376},
		{1899818559, 1000000, 0, 1}, {247665088, 1000000, 999999, modulus - 1}, {247665088, 1, 0, modulus - 1},
	}
	for _, c := range cases {
		if got, next, code := impl.NumberBelow(c[0], c[1]); got != c[2] || next != c[3] || code != impl.ErrNone {
			t.Errorf("NumberBelow of %d, %d is %d, %d, %d, want %d, %d", c[0], c[1], got, next, code, c[2], c[3])
		}
	}
	for _, n := range []int64{0, 1000001, -1, -1000000, math.MinInt64, math.MaxInt64} {
		for _, state := range append(noStates(), 1, modulus-1) {
			if got, next, code := impl.NumberBelow(state, n); got != 0 || next != 0 || code != impl.ErrRange {
				t.Errorf("NumberBelow of %d, %d is %d, %d, %d, want ErrRange", state, n, got, next, code)
			}
		}
	}
	for _, state := range noStates() {
		for _, n := range below {
			if got, next, code := impl.NumberBelow(state, n); got != 0 || next != 0 || code != impl.ErrRange {
				t.Errorf("NumberBelow of %d, %d is %d, %d, %d, want ErrRange", state, n, got, next, code)
			}
		}
	}
}

// Each state from k * Modulus / n on, and none before it, stands for the number k below n.
func TestNumberBelowOnBounds(t *testing.T) {
	back := new(big.Int).ModInverse(big.NewInt(48271), big.NewInt(modulus)).Int64()
	for _, n := range []int64{2, 3, 7, 10, 199, 200, 1000, 999999, 1000000} {
		for _, k := range []int64{1, 2, n / 3, n / 2, n - 2, n - 1} {
			if k < 1 || k >= n {
				continue
			}
			first := refProduct(k, modulus).Int64()/n + 1 // n does not divide the product
			for at, want := range map[int64]int64{first - 1: k - 1, first: k} {
				got, next, code := impl.NumberBelow(refMod(refProduct(at, back)), n)
				if got != want || next != at || code != impl.ErrNone {
					t.Errorf("the number below %d at the state %d is %d, %d, %d, want %d", n, at, got, next, code, want)
				}
			}
		}
	}
}

func TestShuffleNumbers(t *testing.T) {
	for _, state := range someStates() {
		for n := int64(0); n <= mostDrew; n++ {
			got, code := impl.ShuffleNumbers(state, n)
			if want := refShuffle(state, n); !slices.Equal(got, want) || code != impl.ErrNone {
				t.Fatalf("ShuffleNumbers of %d, %d is %v, %d, want %v", state, n, got, code, want)
			}
		}
	}
	cases := []struct {
		state int64
		want  []int64
	}{
		{1, nil},
		{modulus - 1, nil},
		{1, []int64{0}},
		{modulus - 1, []int64{0}},
		{1, []int64{0, 1}},
		{modulus - 1, []int64{1, 0}},
		{1, []int64{0, 1, 3, 4, 2}},
		{12345, []int64{1, 3, 4, 2, 0}},
		{modulus - 1, []int64{4, 0, 3, 2, 1}},
		{12345, []int64{2, 7, 1, 9, 6, 8, 0, 5, 3, 4}},
	}
	for _, c := range cases {
		if got, code := impl.ShuffleNumbers(c.state, int64(len(c.want))); !slices.Equal(got, c.want) || code != impl.ErrNone {
			t.Errorf("ShuffleNumbers of %d is %v, %d, want %v", c.state, got, code, c.want)
		}
	}
	for _, n := range notDrawn() {
		if got, code := impl.ShuffleNumbers(1, n); len(got) != 0 || code != impl.ErrRange {
			t.Errorf("ShuffleNumbers of %d numbers is %v, %d, want ErrRange", n, got, code)
		}
	}
	for _, state := range noStates() {
		for _, n := range []int64{0, 1, 2, mostDrew, -1, mostDrew + 1} {
			if got, code := impl.ShuffleNumbers(state, n); len(got) != 0 || code != impl.ErrRange {
				t.Errorf("ShuffleNumbers of %d, %d is %v, %d, want ErrRange", state, n, got, code)
			}
		}
	}
}

func TestSampleOf(t *testing.T) {
	for _, state := range someStates() {
		for _, n := range []int64{0, 1, 2, 3, 10, 57, mostDrew - 1, mostDrew} {
			all := refShuffle(state, n)
			for k := int64(0); k <= n; k++ {
				got, code := impl.SampleOf(state, n, k)
				if !slices.Equal(got, all[:k]) || code != impl.ErrNone {
					t.Fatalf("SampleOf of %d, %d, %d is %v, %d, want %v", state, n, k, got, code, all[:k])
				}
			}
			for _, k := range []int64{-1, n + 1, n + mostDrew, -n - 1, math.MinInt64, math.MaxInt64} {
				if got, code := impl.SampleOf(state, n, k); len(got) != 0 || code != impl.ErrRange {
					t.Errorf("SampleOf of %d, %d, %d is %v, %d, want ErrRange", state, n, k, got, code)
				}
			}
		}
	}
	if got, code := impl.SampleOf(2024, mostDrew, 5); !slices.Equal(got, []int64{9, 22, 29, 125, 31}) || code != impl.ErrNone {
		t.Errorf("SampleOf of 2024, 200, 5 is %v, %d", got, code)
	}
	for _, n := range notDrawn() {
		for _, k := range []int64{0, 1, n} {
			if got, code := impl.SampleOf(1, n, k); len(got) != 0 || code != impl.ErrRange {
				t.Errorf("SampleOf of 1, %d, %d is %v, %d, want ErrRange", n, k, got, code)
			}
		}
	}
	for _, state := range noStates() {
		for _, k := range []int64{-1, 0, 3, 4} {
			if got, code := impl.SampleOf(state, 3, k); len(got) != 0 || code != impl.ErrRange {
				t.Errorf("SampleOf of %d, 3, %d is %v, %d, want ErrRange", state, k, got, code)
			}
		}
	}
}

func TestCommitmentOf(t *testing.T) {
	for _, state := range someStates() {
		for _, salt := range someSalts() {
			got, code := impl.CommitmentOf(state, salt)
			if want := refCommitment(state, salt); got != want || code != impl.ErrNone {
				t.Errorf("CommitmentOf of %d, %d is %d, %d, want %d", state, salt, got, code, want)
			}
		}
	}
	cases := [][3]int64{
		{1, 0, 1101513974}, {1, modulus - 1, 1101448435}, {12345, 67890, 478031642},
		{modulus - 1, 0, 1045969673}, {modulus - 1, modulus - 1, 1045904134},
	}
	for _, c := range cases {
		if got, code := impl.CommitmentOf(c[0], c[1]); got != c[2] || code != impl.ErrNone {
			t.Errorf("CommitmentOf of %d, %d is %d, %d, want %d", c[0], c[1], got, code, c[2])
		}
	}
	for _, state := range noStates() {
		for _, salt := range append(someSalts(), noSalts()...) {
			if got, code := impl.CommitmentOf(state, salt); got != 0 || code != impl.ErrRange {
				t.Errorf("CommitmentOf of %d, %d is %d, %d, want ErrRange", state, salt, got, code)
			}
		}
	}
	for _, salt := range noSalts() {
		if got, code := impl.CommitmentOf(modulus-1, salt); got != 0 || code != impl.ErrRange {
			t.Errorf("CommitmentOf of salt %d is %d, %d, want ErrRange", salt, got, code)
		}
	}
}

// checkRight compares IsRightDraw with a wanted answer.
func checkRight(t *testing.T, what string, commitment, state, salt, n int64, list []int64, want bool) {
	t.Helper()
	if got, code := impl.IsRightDraw(commitment, state, salt, n, list); got != want || code != impl.ErrNone {
		t.Errorf("%s: IsRightDraw of %d, %d, %d, %d, %v is %v, %d, want %v", what, commitment, state, salt, n, list, got, code, want)
	}
}

func TestIsRightDraw(t *testing.T) {
	for i, state := range someStates() {
		salt := someSalts()[i%len(someSalts())]
		commitment := refCommitment(state, salt)
		for _, n := range []int64{0, 1, 2, 10, mostDrew} {
			all := refShuffle(state, n)
			for k := int64(0); k <= n; k += 1 + k/3 {
				checkRight(t, "right", commitment, state, salt, n, all[:k], true)
				for _, other := range []int64{commitment - 1, commitment + 1, commitment + modulus, commitment - modulus, -commitment - 1, modulus, math.MinInt64, math.MaxInt64} {
					checkRight(t, "a wrong commitment", other, state, salt, n, all[:k], false)
				}
			}
		}
		list := refShuffle(state, 10)
		checkRight(t, "a wrong salt", commitment, state, (salt+1)%modulus, 10, list, false)
		checkRight(t, "a wrong salt for no numbers", commitment, state, (salt+1)%modulus, 10, nil, false)
		checkRight(t, "a wrong state", commitment, state%(modulus-1)+1, salt, 10, list, false)
		checkRight(t, "a wrong state for no numbers", commitment, state%(modulus-1)+1, salt, 0, nil, false)
	}
	checkRight(t, "none, nil", 1101513974, 1, 0, 3, nil, true)
	checkRight(t, "none, empty", 1101513974, 1, 0, 3, []int64{}, true)
	checkRight(t, "as given", 1101513974, 1, 0, 3, []int64{0, 1}, true)
	checkRight(t, "commitment 0", 0, 1, saltFor(0, 1), 3, []int64{0, 1, 2}, true)
	checkRight(t, "commitment Modulus is not 0", modulus, 1, saltFor(0, 1), 3, []int64{0, 1, 2}, false)
}

func TestIsRightDrawOfOtherLists(t *testing.T) {
	const state, salt = 12345, 67890
	commitment := refCommitment(state, salt)
	right := refShuffle(state, 10)
	for i := range right {
		for _, x := range []int64{right[i] - 1, right[i] + 1, -1, 10, right[(i+1)%10], right[i] + 1<<32, math.MinInt64, math.MaxInt64} {
			list := slices.Clone(right)
			list[i] = x
			checkRight(t, "a wrong number", commitment, state, salt, 10, list, false)
			checkRight(t, "a wrong number at the end", commitment, state, salt, 10, list[:i+1], false)
		}
		for j := range i {
			list := slices.Clone(right)
			list[i], list[j] = list[j], list[i]
			checkRight(t, "a wrong order", commitment, state, salt, 10, list, false)
		}
		checkRight(t, "one left out", commitment, state, salt, 10, slices.Delete(slices.Clone(right), i, i+1), i == 9)
	}
	sorted := slices.Sorted(slices.Values(right))
	checkRight(t, "sorted", commitment, state, salt, 10, sorted, false)
	checkRight(t, "another n", commitment, state, salt, 11, right, slices.Equal(right, refShuffle(state, 11)[:10]))
	checkRight(t, "numbers from 1", commitment, state, salt, 3, []int64{2, 3, 1}, false)
}

func TestIsRightDrawErrors(t *testing.T) {
	commitment := refCommitment(12345, 67890)
	check := func(what string, commitment, state, salt, n int64, list []int64) {
		t.Helper()
		if got, code := impl.IsRightDraw(commitment, state, salt, n, list); got || code != impl.ErrRange {
			t.Errorf("%s: IsRightDraw of %d, %d, %d, %d is %v, %d, want ErrRange", what, commitment, state, salt, n, got, code)
		}
	}
	for _, c := range []int64{commitment, commitment + 1, -1, math.MaxInt64} {
		for _, state := range noStates() {
			check("state", c, state, 67890, 10, nil)
		}
		for _, salt := range noSalts() {
			check("salt", c, 12345, salt, 10, nil)
		}
		for _, n := range notDrawn() {
			check("n", c, 12345, 67890, n, nil)
			check("n and numbers", c, 12345, 67890, n, []int64{0, 1})
		}
		for n := int64(0); n <= mostDrew; n++ {
			all := refShuffle(12345, n)
			check("a number too many", c, 12345, 67890, n, append(all, n))
			check("a number twice", c, 12345, 67890, n, append(all, 0))
		}
		check("one number of none", c, 12345, 67890, 0, []int64{0})
		check("201 numbers", c, 12345, 67890, mostDrew, make([]int64, mostDrew+1))
		check("1000 numbers", c, 12345, 67890, mostDrew, make([]int64, 1000))
	}
}

func TestStatesAfter(t *testing.T) {
	for _, state := range someStates() {
		var want []int64
		next := state
		for count := int64(0); count <= mostDrew; count++ {
			got, code := impl.StatesAfter(state, count)
			if !slices.Equal(got, want) || code != impl.ErrNone {
				t.Fatalf("StatesAfter of %d, %d is %v, %d, want %v", state, count, got, code, want)
			}
			next = refNext(next)
			want = append(want, next)
		}
	}
	if got, _ := impl.StatesAfter(1, mostDrew); len(got) != mostDrew || got[mostDrew-1] != 872671849 {
		t.Errorf("StatesAfter of 1, 200 is %v", got)
	}
	for _, count := range notDrawn() {
		if got, code := impl.StatesAfter(1, count); len(got) != 0 || code != impl.ErrRange {
			t.Errorf("StatesAfter of 1, %d is %v, %d, want ErrRange", count, got, code)
		}
	}
	for _, state := range noStates() {
		for _, count := range []int64{-1, 0, 1, mostDrew, mostDrew + 1} {
			if got, code := impl.StatesAfter(state, count); len(got) != 0 || code != impl.ErrRange {
				t.Errorf("StatesAfter of %d, %d is %v, %d, want ErrRange", state, count, got, code)
			}
		}
	}
}

func TestPlaceInShuffle(t *testing.T) {
	for _, state := range someStates() {
		for _, n := range []int64{0, 1, 2, 3, 10, 57, mostDrew - 1, mostDrew} {
			for i, x := range refShuffle(state, n) {
				if got, code := impl.PlaceInShuffle(state, n, x); got != int64(i) || code != impl.ErrNone {
					t.Fatalf("PlaceInShuffle of %d, %d, %d is %d, %d, want %d", state, n, x, got, code, i)
				}
			}
			for _, x := range []int64{-1, n, n + 1, mostDrew, math.MinInt64, math.MaxInt64} {
				if got, code := impl.PlaceInShuffle(state, n, x); got != 0 || code != impl.ErrRange {
					t.Errorf("PlaceInShuffle of %d, %d, %d is %d, %d, want ErrRange", state, n, x, got, code)
				}
			}
		}
	}
	if got, code := impl.PlaceInShuffle(12345, 10, 9); got != 3 || code != impl.ErrNone {
		t.Errorf("PlaceInShuffle of 12345, 10, 9 is %d, %d, want 3", got, code)
	}
	for _, n := range notDrawn() {
		for _, x := range []int64{0, n - 1, mostDrew - 1} {
			if got, code := impl.PlaceInShuffle(1, n, x); got != 0 || code != impl.ErrRange {
				t.Errorf("PlaceInShuffle of 1, %d, %d is %d, %d, want ErrRange", n, x, got, code)
			}
		}
	}
	for _, state := range noStates() {
		for _, x := range []int64{-1, 0, 9, 10} {
			if got, code := impl.PlaceInShuffle(state, 10, x); got != 0 || code != impl.ErrRange {
				t.Errorf("PlaceInShuffle of %d, 10, %d is %d, %d, want ErrRange", state, x, got, code)
			}
		}
	}
}

// Promise 3: each number is drawn once, and NumberBelow draws what the shuffle exchanges.
func TestEachNumberIsDrawnOnce(t *testing.T) {
	for _, state := range someStates() {
		for n := int64(0); n <= mostDrew; n++ {
			list, code := impl.ShuffleNumbers(state, n)
			if code != impl.ErrNone || int64(len(list)) != n {
				t.Fatalf("ShuffleNumbers of %d, %d has %d numbers, %d", state, n, len(list), code)
			}
			drawn := make([]int64, n)
			for _, x := range list {
				drawn[x]++
			}
			if slices.ContainsFunc(drawn, func(times int64) bool { return times != 1 }) {
				t.Fatalf("ShuffleNumbers of %d, %d is %v", state, n, list)
			}
		}
	}
	first, _ := impl.ShuffleNumbers(12345, mostDrew)
	k, _, _ := impl.NumberBelow(12345, mostDrew)
	if first[0] != k {
		t.Errorf("the first of 200 numbers is %d, though %d is drawn", first[0], k)
	}
}

// Promise 3: of all short lists, those are right that can be replayed from a state with the commitment.
func TestRightDrawsAreThoseReplayed(t *testing.T) {
	const commitment = 478031642
	for _, state := range someStates() {
		salt := saltFor(commitment, state)
		if got, code := impl.CommitmentOf(state, salt); got != commitment || code != impl.ErrNone {
			t.Fatalf("CommitmentOf of %d, %d is %d, %d, want %d", state, salt, got, code, commitment)
		}
		for n := int64(0); n <= 4; n++ {
			replayed, _ := impl.ShuffleNumbers(state, n)
			for _, list := range listsOver(-1, n, n) {
				want := slices.Equal(list, replayed[:len(list)])
				checkRight(t, "any list", commitment, state, salt, n, list, want)
				checkRight(t, "any list, wrong commitment", commitment+1, state, salt, n, list, false)
			}
		}
	}
}

// listsOver returns all lists of at most length numbers in least..greatest.
func listsOver(least, greatest, length int64) [][]int64 {
	lists := [][]int64{nil}
	for begin := 0; length > 0; length-- {
		end := len(lists)
		for _, list := range lists[begin:end] {
			for x := least; x <= greatest; x++ {
				lists = append(lists, append(slices.Clone(list), x))
			}
		}
		begin = end
	}
	return lists
}

// No function changes an argument or the spare capacity behind it.
func TestArgumentsAreKept3(t *testing.T) {
	right := refShuffle(12345, 10)
	commitment := refCommitment(12345, 67890)
	for k := range right {
		for _, n := range []int64{10, 11, 0, -1} {
			list := slices.Clone(right)
			impl.IsRightDraw(commitment, 12345, 67890, n, list[:k])
			impl.IsRightDraw(commitment, 1, 0, n, list[:k])
			impl.IsRightDraw(1101513974, 1, 0, n, list[:k])
			if !slices.Equal(list, right) {
				t.Fatalf("an argument was changed: %v", list)
			}
		}
	}
}

// A result belongs to its caller: what is written to it, or put behind it, is seen in no other one.
func TestResultsAreNew3(t *testing.T) {
	calls := map[string]func() ([]int64, int64){
		"ShuffleNumbers": func() ([]int64, int64) { return impl.ShuffleNumbers(12345, 10) },
		"SampleOf":       func() ([]int64, int64) { return impl.SampleOf(12345, 10, 4) },
		"SampleOf all":   func() ([]int64, int64) { return impl.SampleOf(12345, 10, 10) },
		"StatesAfter":    func() ([]int64, int64) { return impl.StatesAfter(12345, 10) },
	}
	for name, call := range calls {
		first, _ := call()
		want := slices.Clone(first)
		second, _ := call()
		for i := range first[:cap(first)] {
			first[:cap(first)][i] = -7
		}
		third, code := call()
		if !slices.Equal(second, want) || !slices.Equal(third, want) || code != impl.ErrNone {
			t.Errorf("%s: a result changed with another one: %v, %v, want %v", name, second, third, want)
		}
	}
}
