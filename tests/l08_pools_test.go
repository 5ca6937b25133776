package tests

import (
	"maps"
	"math"
	"math/big"
	"math/rand/v2"
	"regexp"
	"slices"
	"strconv"
	"strings"
	"testing"

	"loop.example/g01027/impl"
)

func pool(numbers, drawn []int64, state int64) impl.Pool {
	return impl.Pool{Numbers: numbers, Drawn: drawn, State: state}
}

// numbersUpTo returns the numbers 1, 1 + step and so on, count in all.
func numbersUpTo(count, step int64) []int64 {
	list := numbersTo(count, step)
	for i := range list {
		list[i]++
	}
	return list
}

func equalPools(a, b impl.Pool) bool {
	return slices.Equal(a.Numbers, b.Numbers) && slices.Equal(a.Drawn, b.Drawn) && a.State == b.State
}

func copiedPool(p impl.Pool) impl.Pool {
	return pool(slices.Clone(p.Numbers), slices.Clone(p.Drawn), p.State)
}

func isZeroPool(p impl.Pool) bool {
	return equalPools(p, impl.Pool{})
}

// ordersOf returns all orders of all numbers of a list.
func ordersOf(list []int64) [][]int64 {
	if len(list) == 0 {
		return [][]int64{nil}
	}
	var orders [][]int64
	for i, first := range list {
		for _, rest := range ordersOf(slices.Delete(slices.Clone(list), i, i+1)) {
			orders = append(orders, append([]int64{first}, rest...))
		}
	}
	return orders
}

// choicesOf returns all orders of all choices of numbers of a list.
func choicesOf(list []int64) [][]int64 {
	var choices [][]int64
	for chosen := range 1 << len(list) {
		var some []int64
		for i, n := range list {
			if chosen>>i&1 == 1 {
				some = append(some, n)
			}
		}
		choices = append(choices, ordersOf(some)...)
	}
	return choices
}

// mixedUp returns the numbers of a list in the order of a shuffle.
func mixedUp(list []int64, state int64) []int64 {
	var mixed []int64
	for _, place := range refShuffle(state, int64(len(list))) {
		mixed = append(mixed, list[place])
	}
	return mixed
}

// goodPools returns pools, among them each value of a field at its limits.
func goodPools() map[string]impl.Pool {
	pools := map[string]impl.Pool{
		"no numbers, nil": pool(nil, nil, 1), "no numbers, empty": pool([]int64{}, []int64{}, 1), "no numbers, greatest state": pool(nil, nil, modulus-1),
		"one, not drawn": pool([]int64{7}, nil, 1), "one, drawn": pool([]int64{7}, []int64{7}, 1),
		"the least": pool([]int64{1}, nil, 5), "the least, drawn": pool([]int64{1}, []int64{1}, 5),
		"the greatest": pool([]int64{1000000}, nil, 5), "the greatest, drawn": pool([]int64{1000000}, []int64{1000000}, 5),
		"the least and the greatest": pool([]int64{1, 1000000}, []int64{1000000}, 5), "both drawn": pool([]int64{1, 1000000}, []int64{1000000, 1}, 5),
		"neighbours of the ends": pool([]int64{2, 999999}, []int64{999999}, 5),
		"state 1":                pool([]int64{3, 5, 8}, []int64{5}, 1), "state 2": pool([]int64{3, 5, 8}, []int64{5}, 2),
		"the greatest state": pool([]int64{3, 5, 8}, []int64{5}, modulus-1), "the greatest state but one": pool([]int64{3, 5, 8}, []int64{5}, modulus-2),
		"replayed": pool([]int64{3, 5, 8}, []int64{3}, 48271), "replayed to the end": pool([]int64{3, 5, 8}, []int64{3, 5, 8}, 1291394886),
	}
	for _, count := range []int64{4, 10, 11, 30, 58, 59, 60} {
		for _, step := range []int64{1, 13, 999999 / (count - 1)} {
			list, name := numbersUpTo(count, step), strconv.Itoa(int(count))+" by "+strconv.Itoa(int(step))
			mixed := mixedUp(list, count*step)
			pools[name] = pool(list, nil, count)
			pools[name+", one drawn"] = pool(list, mixed[:1], 12345)
			pools[name+", half drawn"] = pool(list, mixed[:count/2], 2024)
			pools[name+", all but one drawn"] = pool(list, mixed[:count-1], 99)
			pools[name+", all drawn"] = pool(list, mixed, 7)
			pools[name+", drawn in order"] = pool(list, slices.Clone(list), 8)
			pools[name+", drawn backwards"] = pool(list, slices.Sorted(slices.Values(list)), 9)
			slices.Reverse(pools[name+", drawn backwards"].Drawn)
			pools[name+", first half drawn"] = pool(list, slices.Clone(list[:count/2]), 10)
			pools[name+", second half drawn"] = pool(list, slices.Clone(list[count/2:]), 11)
		}
	}
	for i, drawn := range choicesOf([]int64{2, 4, 6, 9}) {
		pools["choice "+strconv.Itoa(i)] = pool([]int64{2, 4, 6, 9}, drawn, int64(1+i*i))
	}
	for i, state := range someStates() {
		pools["some state "+strconv.Itoa(i)] = pool([]int64{10, 20, 30, 40, 50}, []int64{40, 10}, state)
	}
	return pools
}

// noNumberLists returns lists that are no Numbers of a pool, for one fault each.
func noNumberLists() map[string][]int64 {
	lists := map[string][]int64{
		"61 numbers": numbersUpTo(61, 1), "61 numbers far apart": numbersUpTo(61, 16000), "1000 numbers": numbersUpTo(1000, 1), "61 times 1": repeated(61, int64(1)),
		"only 0": {0}, "only 1000001": {1000001}, "only -1": {-1}, "only the least int64": {math.MinInt64}, "only the greatest int64": {math.MaxInt64},
		"0 in front": {0, 3, 5}, "-1 in front": {-1, 3, 5}, "1000001 behind": {3, 5, 1000001}, "the greatest int64 behind": {3, 5, math.MaxInt64}, "the least int64 in front": {math.MinInt64, 3, 5},
		"from 0 to 59": numbersTo(60, 1), "up to 1000001": append(numbersUpTo(59, 1), 1000001),
		"twice the same": {5, 5}, "equal first two": {3, 3, 5, 8}, "equal in the middle": {3, 5, 5, 8}, "equal last two": {3, 5, 8, 8}, "60 times 9": repeated(60, int64(9)),
		"falling": {8, 5, 3}, "falling at the front": {5, 3, 8}, "falling at the end": {3, 8, 5}, "falling by 1": {6, 5}, "a last one as the first": {3, 5, 8, 3},
	}
	ends := numbersUpTo(60, 5)
	ends[59] = ends[58]
	lists["60, equal last two"] = ends
	return lists
}

// badPools returns pools that are not as described, for one fault each, and the zero value.
func badPools() map[string]impl.Pool {
	some, sixty := []int64{3, 5, 8}, numbersUpTo(60, 2)
	pools := map[string]impl.Pool{
		"zero value": {}, "drawn of none": pool(nil, []int64{1}, 1), "0 drawn of none": pool(nil, []int64{0}, 1),
		"drawn twice": pool(some, []int64{5, 5}, 1), "the first drawn twice": pool(some, []int64{3, 3}, 1), "the last drawn twice": pool(some, []int64{8, 8}, 1),
		"drawn twice, apart": pool(some, []int64{5, 3, 5}, 1), "one too many": pool(some, []int64{3, 5, 8, 3}, 1), "one too many, the last": pool(some, []int64{8, 3, 5, 8}, 1), "thrice": pool(some, repeated(3, int64(3)), 1),
		"one of one drawn twice": pool([]int64{9}, []int64{9, 9}, 1), "a million drawn": pool(some, repeated(1000000, int64(5)), 1),
		"60 drawn and one of them twice": pool(sixty, append(slices.Clone(sixty), 61), 1), "59 drawn and one of them twice": pool(sixty, append(slices.Clone(sixty[1:]), 61), 1), "60 drawn and one that is none": pool(sixty, append(slices.Clone(sixty), 60), 1),
		"59 drawn and one that is none": pool(sixty, append(slices.Clone(sixty[1:]), 60), 1), "one that is none and 59 drawn": pool(sixty, append([]int64{60}, sixty[1:]...), 1),
	}
	for _, no := range []int64{0, -1, 1, 2, 4, 6, 7, 9, 1000000, 1000001, -3, math.MinInt64, math.MaxInt64} {
		name := strconv.FormatInt(no, 10)
		pools["drawn "+name] = pool(some, []int64{no}, 1)
		pools["drawn 5, "+name] = pool(some, []int64{5, no}, 1)
		pools["drawn "+name+", 5"] = pool(some, []int64{no, 5}, 1)
		pools["drawn 5, "+name+", 3"] = pool(some, []int64{5, no, 3}, 1)
	}
	for name, list := range noNumberLists() {
		pools[name] = pool(list, nil, 1)
		pools[name+", one drawn"] = pool(list, []int64{list[0]}, 12345)
		pools[name+", the last drawn"] = pool(list, []int64{list[len(list)-1]}, 12345)
	}
	for _, state := range noStates() {
		name := "state " + strconv.FormatInt(state, 10)
		pools[name] = pool(some, []int64{5}, state)
		pools[name+", no numbers"] = pool(nil, nil, state)
		pools[name+", 60 numbers"] = pool(sixty, nil, state)
		pools[name+", 60 drawn"] = pool(sixty, sixty, state)
	}
	return pools
}

// isPoolBySets is an independent check of a pool, by sets of its numbers.
func isPoolBySets(p impl.Pool) bool {
	known, drawn := map[int64]bool{}, map[int64]bool{}
	for _, n := range p.Numbers {
		if n < 1 || n > 1000000 {
			return false
		}
		known[n] = true
	}
	for _, n := range p.Drawn {
		if !known[n] {
			return false
		}
		drawn[n] = true
	}
	inOrder := slices.Equal(slices.Sorted(maps.Keys(known)), p.Numbers)
	return inOrder && len(known) <= 60 && len(drawn) == len(p.Drawn) && p.State > 0 && p.State < modulus
}

// refLeft returns the numbers that are not among those drawn.
func refLeft(p impl.Pool) []int64 {
	return slices.DeleteFunc(slices.Clone(p.Numbers), func(n int64) bool { return slices.Contains(p.Drawn, n) })
}

// refTake returns a pool after k draws, each from the numbers that are then left.
func refTake(p impl.Pool, k int) impl.Pool {
	after := copiedPool(p)
	for range k {
		left := refLeft(after)
		after.State = refNext(after.State)
		after.Drawn = append(after.Drawn, left[refNumber(after.State, int64(len(left)))])
	}
	return after
}

func checkLeft(t *testing.T, what string, p impl.Pool, want []int64) {
	t.Helper()
	if got, code := impl.LeftOf(p); !slices.Equal(got, want) || code != impl.ErrNone {
		t.Errorf("%s: LeftOf is %v, %d, want %v", what, got, code, want)
	}
}

func checkTake(t *testing.T, what string, p impl.Pool, k int64, want impl.Pool) {
	t.Helper()
	got, list, code := impl.TakeFrom(p, k)
	if !equalPools(got, want) || !slices.Equal(list, want.Drawn[len(p.Drawn):]) || code != impl.ErrNone {
		t.Errorf("%s: TakeFrom %d is %v, %v, %d, want %v", what, k, got, list, code, want)
	}
}

func checkPut(t *testing.T, what string, p impl.Pool, numbers []int64, want impl.Pool, wantCode int64) {
	t.Helper()
	if got, code := impl.PutBack(p, numbers); !equalPools(got, want) || code != wantCode {
		t.Errorf("%s: PutBack of %v to %v is %v, %d, want %v, %d", what, numbers, p, got, code, want, wantCode)
	}
}

func checkReplay(t *testing.T, what string, p impl.Pool, state int64, want bool) {
	t.Helper()
	if got, code := impl.IsReplay(p, state); got != want || code != impl.ErrNone {
		t.Errorf("%s: IsReplay of %v from %d is %t, %d, want %t", what, p, state, got, code, want)
	}
}

func checkChance(t *testing.T, what string, p impl.Pool, k, above, below, wantCode int64) {
	t.Helper()
	if a, b, code := impl.ChanceOf(p, k); a != above || b != below || code != wantCode {
		t.Errorf("%s: ChanceOf %d is %d/%d, %d, want %d/%d, %d", what, k, a, b, code, above, below, wantCode)
	}
}

func TestConstants8(t *testing.T) {
	if impl.MaxPool != 60 {
		t.Errorf("MaxPool is %d, want 60", impl.MaxPool)
	}
}

func TestIsPool(t *testing.T) {
	checkWhichAre(t, "IsPool", impl.IsPool, isPoolBySets, goodPools(), badPools())
}

// All pools with at most three Numbers and at most four Drawn, in small ranges.
func TestIsPoolOfAllSmallPools(t *testing.T) {
	right := 0
	for _, numbers := range listsOver(0, 4, 3) {
		for _, drawn := range listsOver(0, 4, 4) {
			p := pool(numbers, drawn, 12345)
			want := isPoolBySets(p)
			if impl.IsPool(p) != want {
				t.Fatalf("IsPool of %v is %t", p, !want)
			}
			if want {
				right++
			}
		}
	}
	// 1, 4, 6 and 4 choices of Numbers have 1, 2, 5 and 16 orders of choices.
	if right != 1+4*2+6*5+4*16 {
		t.Errorf("%d small pools are right", right)
	}
}

func TestMakePool(t *testing.T) {
	for name, p := range goodPools() {
		want := pool(p.Numbers, nil, p.State)
		if got, code := impl.MakePool(p.Numbers, p.State); !equalPools(got, want) || code != impl.ErrNone {
			t.Errorf("%s: MakePool is %v, %d, want %v", name, got, code, want)
		}
		for _, state := range noStates() {
			if got, code := impl.MakePool(p.Numbers, state); !isZeroPool(got) || code != impl.ErrInvalid {
				t.Errorf("%s: MakePool with the state %d is %v, %d, want ErrInvalid", name, state, got, code)
			}
		}
	}
	for name, list := range noNumberLists() {
		for _, state := range append(noStates(), 1, 12345, modulus-1) {
			if got, code := impl.MakePool(list, state); !isZeroPool(got) || code != impl.ErrInvalid {
				t.Errorf("%s: MakePool with the state %d is %v, %d, want ErrInvalid", name, state, got, code)
			}
		}
	}
}

func TestLeftOf(t *testing.T) {
	checkLeft(t, "none", pool(nil, nil, 1), nil)
	checkLeft(t, "one", pool([]int64{7}, nil, 1), []int64{7})
	checkLeft(t, "one, drawn", pool([]int64{7}, []int64{7}, 1), nil)
	checkLeft(t, "the first drawn", pool([]int64{3, 5, 8}, []int64{3}, 1), []int64{5, 8})
	checkLeft(t, "the middle drawn", pool([]int64{3, 5, 8}, []int64{5}, 1), []int64{3, 8})
	checkLeft(t, "the last drawn", pool([]int64{3, 5, 8}, []int64{8}, 1), []int64{3, 5})
	checkLeft(t, "the last and the first drawn", pool([]int64{3, 5, 8}, []int64{8, 3}, 1), []int64{5})
	checkLeft(t, "all drawn", pool([]int64{3, 5, 8}, []int64{8, 3, 5}, 1), nil)
	checkLeft(t, "the ends", pool([]int64{1, 2, 999999, 1000000}, []int64{999999, 2}, 1), []int64{1, 1000000})
	for name, p := range goodPools() {
		checkLeft(t, name, p, refLeft(p))
	}
	for name, p := range badPools() {
		if got, code := impl.LeftOf(p); len(got) != 0 || code != impl.ErrInvalid {
			t.Errorf("%s: LeftOf is %v, %d, want ErrInvalid", name, got, code)
		}
	}
}

func TestTakeFrom(t *testing.T) {
	some, tens := []int64{3, 5, 8}, []int64{10, 20, 30, 40, 50, 60, 70, 80, 90, 100}
	cases := []struct {
		p    impl.Pool
		k    int64
		want impl.Pool
	}{
		{pool(nil, nil, 1), 0, pool(nil, nil, 1)},
		{pool(some, nil, 1), 0, pool(some, nil, 1)},
		{pool(some, nil, 1), 1, pool(some, []int64{3}, 48271)},
		{pool(some, nil, 1), 2, pool(some, []int64{3, 5}, 182605794)},
		{pool(some, nil, 1), 3, pool(some, []int64{3, 5, 8}, 1291394886)},
		{pool(some, nil, 12345), 3, pool(some, []int64{3, 8, 5}, 1498755989)},
		{pool(some, nil, modulus-1), 3, pool(some, []int64{8, 5, 3}, 856088761)},
		{pool(some, []int64{8}, 1), 2, pool(some, []int64{8, 3, 5}, 182605794)},
		{pool(some, []int64{5, 3}, 12345), 1, pool(some, []int64{5, 3, 8}, 595905495)},
		{pool(some, []int64{5, 3, 8}, 12345), 0, pool(some, []int64{5, 3, 8}, 12345)},
		{pool([]int64{7}, nil, 1), 1, pool([]int64{7}, []int64{7}, 48271)},
		{pool([]int64{1000000}, nil, modulus-1), 1, pool([]int64{1000000}, []int64{1000000}, 2147435376)},
		{pool([]int64{1, 1000000}, nil, modulus-1), 2, pool([]int64{1, 1000000}, []int64{1000000, 1}, 1964877853)},
		{pool(tens, nil, 12345), 3, pool(tens, []int64{30, 80, 70}, 1498755989)},
		{pool(tens, nil, 12345), 10, pool(tens, []int64{30, 80, 70, 100, 40, 60, 20, 50, 90, 10}, 1419946529)},
		{pool(tens, []int64{100, 10}, 2024), 5, pool(tens, []int64{100, 10, 20, 30, 40, 80, 50}, 305674511)},
		{pool(numbersUpTo(60, 1), nil, 1), 5, pool(numbersUpTo(60, 1), []int64{1, 7, 37, 54, 59}, 2078669041)},
	}
	for _, c := range cases {
		checkTake(t, "a case", c.p, c.k, c.want)
	}
	all, list, code := impl.TakeFrom(pool(numbersUpTo(60, 1), nil, modulus-1), 60)
	if all.State != 16523890 || len(list) != 60 || !slices.Equal(list[:5], []int64{60, 54, 24, 7, 2}) || list[59] != 56 || code != impl.ErrNone {
		t.Errorf("TakeFrom 60 of 60 is %v, %v, %d", all, list, code)
	}
}

func TestTakeFromAllPools(t *testing.T) {
	for name, p := range goodPools() {
		left := len(refLeft(p))
		for k := range left + 1 {
			checkTake(t, name, p, int64(k), refTake(p, k))
		}
		for _, k := range []int64{-1, -2, -60, math.MinInt64} {
			if got, list, code := impl.TakeFrom(p, k); !isZeroPool(got) || len(list) != 0 || code != impl.ErrRange {
				t.Errorf("%s: TakeFrom %d is %v, %v, %d, want ErrRange", name, k, got, list, code)
			}
		}
		for _, k := range []int64{int64(left) + 1, int64(left) + 2, 61, 1000001, 1 << 32, math.MaxInt64} {
			if got, list, code := impl.TakeFrom(p, k); !isZeroPool(got) || len(list) != 0 || code != impl.ErrLimit {
				t.Errorf("%s: TakeFrom %d of %d left is %v, %v, %d, want ErrLimit", name, k, left, got, list, code)
			}
		}
	}
}

// To draw some and then others is to draw them all.
func TestTakeFromInParts(t *testing.T) {
	for name, p := range goodPools() {
		left := len(refLeft(p))
		for first := range left + 1 {
			one, _, _ := impl.TakeFrom(p, int64(first))
			checkTake(t, name, one, int64(left-first), refTake(p, left))
		}
	}
}

func TestPutBack(t *testing.T) {
	some := []int64{2, 4, 6, 9}
	p := pool(some, []int64{6, 9, 2}, 77)
	cases := []struct {
		numbers, drawn []int64
		code           int64
	}{
		{nil, []int64{6, 9, 2}, impl.ErrNone}, {[]int64{}, []int64{6, 9, 2}, impl.ErrNone},
		{[]int64{6}, []int64{9, 2}, impl.ErrNone}, {[]int64{9}, []int64{6, 2}, impl.ErrNone}, {[]int64{2}, []int64{6, 9}, impl.ErrNone},
		{[]int64{6, 9}, []int64{2}, impl.ErrNone}, {[]int64{2, 6}, []int64{9}, impl.ErrNone}, {[]int64{9, 2}, []int64{6}, impl.ErrNone},
		{[]int64{6, 9, 2}, nil, impl.ErrNone}, {[]int64{2, 6, 9}, nil, impl.ErrNone}, {[]int64{2, 9, 6}, nil, impl.ErrNone},
		{[]int64{4}, nil, impl.ErrNotFound}, {[]int64{6, 4}, nil, impl.ErrNotFound}, {[]int64{4, 6}, nil, impl.ErrNotFound}, {[]int64{6, 9, 2, 4}, nil, impl.ErrNotFound},
		{[]int64{5}, nil, impl.ErrNotFound}, {[]int64{0}, nil, impl.ErrNotFound}, {[]int64{-1}, nil, impl.ErrNotFound}, {[]int64{6, 1000001}, nil, impl.ErrNotFound}, {[]int64{math.MinInt64}, nil, impl.ErrNotFound}, {[]int64{math.MaxInt64}, nil, impl.ErrNotFound},
		{[]int64{6, 6}, nil, impl.ErrState}, {[]int64{2, 2}, nil, impl.ErrState}, {[]int64{6, 9, 6}, nil, impl.ErrState}, {[]int64{6, 9, 2, 9}, nil, impl.ErrState}, {repeated(100000, int64(9)), nil, impl.ErrState},
		{[]int64{6, 6, 4}, nil, impl.ErrNotFound}, {[]int64{4, 6, 6}, nil, impl.ErrNotFound}, {[]int64{6, 4, 6}, nil, impl.ErrNotFound}, {[]int64{4, 4}, nil, impl.ErrNotFound}, {[]int64{0, 0}, nil, impl.ErrNotFound}, {append(repeated(100000, int64(9)), 4), nil, impl.ErrNotFound},
	}
	for _, c := range cases {
		want := impl.Pool{}
		if c.code == impl.ErrNone {
			want = pool(some, c.drawn, 77)
		}
		checkPut(t, "a case", p, c.numbers, want, c.code)
	}
	for name, p := range goodPools() {
		none := pool(p.Numbers, nil, p.State)
		checkPut(t, name+", none", p, nil, p, impl.ErrNone)
		checkPut(t, name+", all", p, p.Drawn, none, impl.ErrNone)
		checkPut(t, name+", all in order", p, slices.Sorted(slices.Values(p.Drawn)), none, impl.ErrNone)
		for i, n := range p.Drawn {
			kept := slices.Delete(slices.Clone(p.Drawn), i, i+1)
			checkPut(t, name+", one", p, []int64{n}, pool(p.Numbers, kept, p.State), impl.ErrNone)
			checkPut(t, name+", all but one", p, kept, pool(p.Numbers, []int64{n}, p.State), impl.ErrNone)
			checkPut(t, name+", all and one twice", p, append(slices.Clone(p.Drawn), n), impl.Pool{}, impl.ErrState)
		}
		for _, n := range append(refLeft(p), 0, -1, 1000001) {
			checkPut(t, name+", one that is left", p, []int64{n}, impl.Pool{}, impl.ErrNotFound)
			checkPut(t, name+", all and one that is left", p, append(slices.Clone(p.Drawn), n), impl.Pool{}, impl.ErrNotFound)
			checkPut(t, name+", one that is left and all twice", p, slices.Concat([]int64{n}, p.Drawn, p.Drawn), impl.Pool{}, impl.ErrNotFound)
		}
	}
}

// All lists of some numbers, put back to all pools with three Numbers.
func TestPutBackOfAllShortLists(t *testing.T) {
	for _, drawn := range choicesOf([]int64{1, 2, 3}) {
		p := pool([]int64{1, 2, 3}, drawn, 12345)
		for _, list := range listsOver(0, 4, 4) {
			told := map[int64]bool{}
			known := true
			for _, n := range list {
				told[n] = true
				known = known && slices.Contains(drawn, n)
			}
			switch {
			case !known:
				checkPut(t, "not drawn", p, list, impl.Pool{}, impl.ErrNotFound)
			case len(told) < len(list):
				checkPut(t, "told twice", p, list, impl.Pool{}, impl.ErrState)
			default:
				kept := slices.DeleteFunc(slices.Clone(drawn), func(n int64) bool { return told[n] })
				checkPut(t, "drawn", p, list, pool(p.Numbers, kept, 12345), impl.ErrNone)
			}
		}
	}
}

func TestIsReplay(t *testing.T) {
	some := []int64{3, 5, 8}
	checkReplay(t, "one", pool(some, []int64{3}, 48271), 1, true)
	checkReplay(t, "all", pool(some, []int64{3, 8, 5}, 1498755989), 12345, true)
	checkReplay(t, "another order", pool(some, []int64{8, 3, 5}, 1498755989), 12345, false)
	checkReplay(t, "another state at the end", pool(some, []int64{3, 8, 5}, 1498755988), 12345, false)
	checkReplay(t, "another number", pool(some, []int64{5}, 48271), 1, false)
	checkReplay(t, "other Numbers", pool([]int64{2, 5, 8}, []int64{5}, 48271), 1, false)
	checkReplay(t, "from another state", pool(some, []int64{3, 8, 5}, 1498755989), 12344, false)
	checkReplay(t, "one more than drawn", pool(some, []int64{3}, 182605794), 1, false)
	checkReplay(t, "none drawn", pool(some, nil, 12345), 12345, true)
	checkReplay(t, "none drawn, from another state", pool(some, nil, 12345), 12346, false)
	checkReplay(t, "none drawn, but the next state", pool(some, nil, 48271), 1, false)
	checkReplay(t, "no numbers", pool(nil, nil, modulus-1), modulus-1, true)
	checkReplay(t, "no numbers, from another state", pool(nil, nil, modulus-1), 1, false)
	for name, p := range goodPools() {
		for _, state := range []int64{1, 2, 12345, modulus - 1, p.State} {
			want := refTake(pool(p.Numbers, nil, state), len(p.Drawn))
			checkReplay(t, name, p, state, equalPools(p, want))
			checkReplay(t, name+", replayed", want, state, true)
		}
		for _, state := range noStates() {
			if got, code := impl.IsReplay(p, state); got || code != impl.ErrRange {
				t.Errorf("%s: IsReplay from %d is %t, %d, want ErrRange", name, state, got, code)
			}
		}
	}
}

// A pool that has been drawn from a state is a replay only with this order and this state at the end.
func TestIsReplayOfWhatWasDrawn(t *testing.T) {
	for _, state := range someStates() {
		for k := range 5 {
			p := refTake(pool([]int64{10, 20, 30, 40}, nil, state), k)
			checkReplay(t, "drawn", p, state, true)
			checkReplay(t, "the state at the end", p, p.State, k == 0)
			for _, drawn := range choicesOf(p.Numbers) {
				other := pool(p.Numbers, drawn, p.State)
				checkReplay(t, "any choice", other, state, slices.Equal(drawn, p.Drawn))
			}
			for _, end := range []int64{1, modulus - 1, p.State%(modulus-1) + 1, refNext(p.State)} {
				checkReplay(t, "any state at the end", pool(p.Numbers, p.Drawn, end), state, end == p.State)
			}
		}
	}
}

func TestChanceOf(t *testing.T) {
	twelve := pool(numbersUpTo(14, 3), []int64{4, 1}, 5)
	cases := [][3]int64{{0, 0, 1}, {1, 1, 12}, {2, 1, 6}, {3, 1, 4}, {4, 1, 3}, {5, 5, 12}, {6, 1, 2}, {7, 7, 12}, {8, 2, 3}, {9, 3, 4}, {10, 5, 6}, {11, 11, 12}, {12, 1, 1}}
	for _, c := range cases {
		checkChance(t, "12 left", twelve, c[0], c[1], c[2], impl.ErrNone)
	}
	sixty := pool(numbersUpTo(60, 1), nil, 1)
	for _, c := range [][3]int64{{0, 0, 1}, {1, 1, 60}, {7, 7, 60}, {24, 2, 5}, {36, 3, 5}, {45, 3, 4}, {58, 29, 30}, {59, 59, 60}, {60, 1, 1}} {
		checkChance(t, "60 left", sixty, c[0], c[1], c[2], impl.ErrNone)
	}
	for name, p := range goodPools() {
		left := int64(len(refLeft(p)))
		for k := int64(0); k <= 60; k++ {
			switch {
			case left == 0:
				checkChance(t, name, p, k, 0, 0, impl.ErrNotFound)
			case k > left:
				checkChance(t, name, p, k, 0, 0, impl.ErrLimit)
			default:
				want := big.NewRat(k, left)
				checkChance(t, name, p, k, want.Num().Int64(), want.Denom().Int64(), impl.ErrNone)
			}
		}
		for _, k := range []int64{-1, 61, -60, 120, 1000000, math.MinInt64, math.MaxInt64} {
			checkChance(t, name, p, k, 0, 0, impl.ErrRange)
		}
	}
}

func poolTexts() textFunctions[impl.Pool] {
	return textFunctions[impl.Pool]{impl.PoolText, impl.ReadPool, equalPools}
}

func TestPoolText(t *testing.T) {
	cases := []struct {
		text string
		p    impl.Pool
	}{
		{"-/-/1", pool(nil, nil, 1)},
		{"-/-/2147483646", pool(nil, nil, modulus-1)},
		{"7/-/1", pool([]int64{7}, nil, 1)},
		{"7/7/48271", pool([]int64{7}, []int64{7}, 48271)},
		{"3,5,8/3/48271", pool([]int64{3, 5, 8}, []int64{3}, 48271)},
		{"3,5,8/8,3,5/10", pool([]int64{3, 5, 8}, []int64{8, 3, 5}, 10)},
		{"1,1000000/1000000,1/100", pool([]int64{1, 1000000}, []int64{1000000, 1}, 100)},
		{"10,20,100/-/2000000000", pool([]int64{10, 20, 100}, nil, 2000000000)},
	}
	for _, c := range cases {
		poolTexts().check(t, "a case", c.p, c.text)
	}
	for name, p := range badPools() {
		if text, code := impl.PoolText(p); text != "" || code != impl.ErrInvalid {
			t.Errorf("%s: PoolText is %q, %d, want ErrInvalid", name, text, code)
		}
	}
}

// The promise P1 for pools: a pool is recovered from its text.
func TestPoolsAreRecovered(t *testing.T) {
	for name, p := range goodPools() {
		poolTexts().check(t, name, p, plainText(p))
	}
	for name, p := range badPools() {
		if len(p.Drawn) <= 100 {
			if got, code := impl.ReadPool(plainText(p)); !isZeroPool(got) || code != impl.ErrSyntax {
				t.Errorf("%s: ReadPool of %q is %v, %d, want ErrSyntax", name, plainText(p), got, code)
			}
		}
	}
}

// plainText writes what is in a pool, whether it is one or not.
func plainText(p impl.Pool) string {
	lists := [2]string{"-", "-"}
	for i, list := range [][]int64{p.Numbers, p.Drawn} {
		for j, n := range list {
			if j == 0 {
				lists[i] = strconv.FormatInt(n, 10)
			} else {
				lists[i] += "," + strconv.FormatInt(n, 10)
			}
		}
	}
	return lists[0] + "/" + lists[1] + "/" + strconv.FormatInt(p.State, 10)
}

// poolPattern matches texts of three parts whose numbers are written as in the texts of pools.
var (
	poolPattern = regexp.MustCompile(`\A(-|[1-9][0-9]{0,6}(?:,[1-9][0-9]{0,6})*)/(-|[1-9][0-9]{0,6}(?:,[1-9][0-9]{0,6})*)/([1-9][0-9]{0,9})\z`)
	digits      = regexp.MustCompile(`[0-9]+`)
)

// numbersOf returns the numbers of a part that the pattern matches.
func numbersOf(part string) []int64 {
	var list []int64
	for _, number := range digits.FindAllString(part, -1) {
		n, _ := strconv.Atoi(number)
		list = append(list, int64(n))
	}
	return list
}

// checkReadPool holds ReadPool against the pattern and reports whether s is the text of a pool.
func checkReadPool(t *testing.T, s string) bool {
	t.Helper()
	want, wantCode := impl.Pool{}, int64(impl.ErrSyntax)
	if m := poolPattern.FindStringSubmatch(s); m != nil {
		if p := pool(numbersOf(m[1]), numbersOf(m[2]), numbersOf(m[3])[0]); isPoolBySets(p) {
			want, wantCode = p, impl.ErrNone
		}
	}
	if got, code := impl.ReadPool(s); !equalPools(got, want) || code != wantCode {
		t.Errorf("ReadPool of %q is %v, %d, want %v, %d", s, got, code, want, wantCode)
	}
	return wantCode == impl.ErrNone
}

func TestReadPoolSyntax(t *testing.T) {
	texts := []string{
		"", "-", "/", "//", "///", "-/-", "-/-/", "/-/1", "-//1", "//1", "-/1", "-/-/-", "-/-/1/", "/-/-/1", "-/-/-/1", "-/-//1", "--/-/1", "-/--/1", "-/-/--1",
		"3,5,8", "3,5,8/3", "3,5,8/48271", "3,5,8/3/", "3,5,8/3/48271/", "/3,5,8/3/48271", "3,5,8//3/48271", "3,5,8/3//48271", "3,5,8/3/48271/1", "3,5,8/3/48271/-", "3/5,8/3/48271", "3,5,8//48271", "/3/48271", "3,5,8/3,48271", "3,5,8,3,48271",
		"03,5,8/3/48271", "3,05,8/3/48271", "3,5,08/3/48271", "3,5,8/03/48271", "3,5,8/3/048271", "3,5,8/3/00", "0/-/1", "00/-/1", "3,5,8/0/48271", "3,5,8/-/0", "3,5,8/-/-0",
		"+3,5,8/3/48271", "3,+5,8/3/48271", "3,5,8/+3/48271", "3,5,8/3/+48271", "-3,5,8/3/48271", "3,-5,8/3/48271", "3,5,8/-3/48271", "3,5,8/3/-48271", "-3/-3/1",
		" 3,5,8/3/48271", "3, 5,8/3/48271", "3,5,8 /3/48271", "3,5,8/ 3/48271", "3,5,8/3 /48271", "3,5,8/3/ 48271", "3,5,8/3/48271 ", "3,5,8/3/48271\n", "\n3,5,8/3/48271", "3,5,8/3/48 271", "- /-/1", " -/-/1", "-/- /1", "-/-/1 ", "\t-/-/1",
		",3,5,8/3/48271", "3,5,8,/3/48271", "3,,5,8/3/48271", "3,5,8/,3/48271", "3,5,8/3,/48271", "3,5,8/,/48271", ",/-/1", "-,3/-/1", "3,-/-/1", "3,5,8/-,3/48271", "3,5,8/3,-/48271",
		"3;5;8/3/48271", "3,5,8\\3\\48271", "3.5.8/3/48271", "a/-/1", "-/a/1", "-/-/a", "3,5,8/three/48271", "3,5,8/3/0x10", "3,5,8/3/1e3", "3,5,8/3/1_000", "3,5,8/3/48271.0", "\xff/-/1", "-/-/\x00", "３/-/1",
		"8,5,3/3/48271", "3,5,5/3/48271", "3,3,5/3/48271", "3,5,8/4/48271", "3,5,8/3,3/48271", "3,5,8/3,5,8,3/48271", "-/3/48271", "3,5,8/3/2147483647", "3,5,8/3/2147483648", "3,5,8/3/9999999999", "3,5,8/3/4294967297",
		"1000001/-/1", "1000001/1000001/1", "3,1000001/3/1", "1000000000000/-/1", "1000000000001/-/1", "18446744073709551617/-/1", "7/18446744073709551623/1", "7/-/18446744073709551617", "7/-/9223372036854775807", "7/-/9223372036854775808", "7/-/99999999999999999999999999",
		"-/-/1" + strings.Repeat("/1", 1000), strings.Repeat("/", 100000), strings.Repeat("7", 100000), strings.Repeat("1,", 100000) + "/-/1",
		plainText(pool(numbersUpTo(61, 1), nil, 1)), plainText(pool(numbersUpTo(60, 1), numbersUpTo(61, 1), 1)), plainText(pool(numbersUpTo(61, 1), numbersUpTo(61, 1), 1)), plainText(pool(numbersTo(60, 1), nil, 1)),
	}
	for _, s := range texts {
		if checkReadPool(t, s) {
			t.Errorf("%q is the text of a pool for the tests", s)
		}
	}
}

// Every text that differs by one or two bytes from the text of a pool is read only if it is one.
func TestReadPoolTakesNothingElse(t *testing.T) {
	right := 0
	texts := []string{"-/-/1", "7/-/2147483646", "3,5,8/8,3/48271", "1,1000000/1000000,1/10", plainText(pool(numbersUpTo(60, 1), nil, 12345)), plainText(pool(numbersUpTo(59, 7), numbersUpTo(59, 7), 1))}
	for _, text := range texts {
		for _, one := range append(neighbours(text), text) {
			if checkReadPool(t, one) {
				right++
			}
		}
		for i := range len(text) {
			checkReadPool(t, text[:i]+"/"+text[i:])
			checkReadPool(t, text[:i]+"/"+text[i+1:])
			for _, b := range []byte("019,/-") {
				if len(text) > 30 {
					break
				}
				for _, two := range neighbours(text[:i] + string([]byte{b}) + text[i+1:]) {
					checkReadPool(t, two)
				}
			}
		}
	}
	for _, s := range textsOver("-/,012", 6) {
		if checkReadPool(t, s) {
			right++
		}
	}
	if right < 100 {
		t.Errorf("only %d texts of pools were tried", right)
	}
}

// checkEachOnce checks that what is drawn and what is left are the Numbers, each once.
func checkEachOnce(t *testing.T, what string, p impl.Pool, numbers []int64) {
	t.Helper()
	left, code := impl.LeftOf(p)
	if code != impl.ErrNone || !impl.IsPool(p) || !slices.Equal(p.Numbers, numbers) {
		t.Fatalf("%s: LeftOf %v is %v, %d; its Numbers should be %v", what, p, left, code, numbers)
	}
	together := slices.Sorted(slices.Values(slices.Concat(p.Drawn, left)))
	if !slices.Equal(together, numbers) || !slices.IsSorted(left) {
		t.Fatalf("%s: drawn are %v and left are %v of %v", what, p.Drawn, left, numbers)
	}
}

// The promise P8: what is drawn and what is left are the numbers of the pool, each once, whatever
// is taken and put back.
func TestDrawnAndLeftAreTheNumbers(t *testing.T) {
	for name, p := range goodPools() {
		checkEachOnce(t, name, p, p.Numbers)
		for k := range len(refLeft(p)) + 1 {
			after, list, _ := impl.TakeFrom(p, int64(k))
			checkEachOnce(t, name+", taken from", after, p.Numbers)
			if len(list) != k || !slices.Equal(after.Drawn, slices.Concat(p.Drawn, list)) {
				t.Errorf("%s: taken are %v, but drawn are %v and then %v", name, list, p.Drawn, after.Drawn)
			}
			back, _ := impl.PutBack(after, list)
			checkEachOnce(t, name+", put back", back, p.Numbers)
			if !slices.Equal(back.Drawn, p.Drawn) || back.State != after.State {
				t.Errorf("%s: put back are %v, which leaves %v of %v", name, list, back, p)
			}
		}
	}
	g := rand.New(rand.NewPCG(1, 8))
	for range 300 {
		numbers := slices.Compact(slices.Sorted(slices.Values(randomNumbers(g, g.IntN(61)))))
		p, _ := impl.MakePool(numbers, 1+g.Int64N(modulus-1))
		for range 20 {
			p = takenOrPutBack(t, g, p)
			checkEachOnce(t, "random", p, numbers)
		}
	}
}

func randomNumbers(g *rand.Rand, count int) []int64 {
	var list []int64
	for range count {
		list = append(list, 1+g.Int64N(1000000))
	}
	return list
}

// takenOrPutBack returns a pool after some draws, or after some numbers have been put back.
func takenOrPutBack(t *testing.T, g *rand.Rand, p impl.Pool) impl.Pool {
	t.Helper()
	if g.IntN(2) == 0 {
		k := g.IntN(len(p.Numbers) - len(p.Drawn) + 1)
		checkTake(t, "random", p, int64(k), refTake(p, k))
		after, _, _ := impl.TakeFrom(p, int64(k))
		return after
	}
	back := mixedUp(p.Drawn, 1+g.Int64N(modulus-1))
	back = back[:g.IntN(len(back)+1)]
	kept := slices.DeleteFunc(slices.Clone(p.Drawn), func(n int64) bool { return slices.Contains(back, n) })
	checkPut(t, "random", p, back, pool(p.Numbers, kept, p.State), impl.ErrNone)
	after, _ := impl.PutBack(p, back)
	return after
}

// ErrInvalid of a pool comes before what is wrong with a number, a state or a list beside it.
func TestPoolErrorOrder(t *testing.T) {
	for name, p := range badPools() {
		for _, k := range []int64{0, 1, -1, 60, 61, math.MinInt64, math.MaxInt64} {
			if got, list, code := impl.TakeFrom(p, k); !isZeroPool(got) || len(list) != 0 || code != impl.ErrInvalid {
				t.Errorf("%s: TakeFrom %d is %v, %v, %d, want ErrInvalid", name, k, got, list, code)
			}
			checkChance(t, name, p, k, 0, 0, impl.ErrInvalid)
		}
		for _, list := range [][]int64{nil, {5}, {5, 5}, {4}, {0, 0}, p.Drawn[:min(len(p.Drawn), 9)], p.Numbers} {
			if got, code := impl.PutBack(p, list); !isZeroPool(got) || code != impl.ErrInvalid {
				t.Errorf("%s: PutBack of %v is %v, %d, want ErrInvalid", name, list, got, code)
			}
		}
		for _, state := range append(noStates(), 1, 12345, modulus-1, p.State) {
			if got, code := impl.IsReplay(p, state); got || code != impl.ErrInvalid {
				t.Errorf("%s: IsReplay from %d is %t, %d, want ErrInvalid", name, state, got, code)
			}
		}
	}
}

// poolWithSpare returns a copy of a pool with numbers in the spare capacity behind its lists, and
// all of them.
func poolWithSpare(p impl.Pool) (part, whole impl.Pool) {
	part, whole = p, p
	part.Numbers, whole.Numbers = withSpare(p.Numbers)
	part.Drawn, whole.Drawn = withSpare(p.Drawn)
	return part, whole
}

// spoilPool overwrites the lists of a result up to their capacities.
func spoilPool(p impl.Pool) {
	spoil(p.Numbers)
	spoil(p.Drawn)
}

// poolResult has all lists of one result.
type poolResult struct {
	p    impl.Pool
	list []int64
}

// resultsOf calls all functions that return a pool or a list.
func resultsOf(p impl.Pool, text string, back []int64) map[string]poolResult {
	left := int64(len(p.Numbers) - len(p.Drawn))
	results := map[string]poolResult{}
	made, _ := impl.MakePool(p.Numbers, p.State)
	results["MakePool"] = poolResult{made, nil}
	rest, _ := impl.LeftOf(p)
	results["LeftOf"] = poolResult{impl.Pool{}, rest}
	for _, k := range []int64{0, left / 2, left} {
		after, list, _ := impl.TakeFrom(p, k)
		results["TakeFrom "+strconv.Itoa(int(k))] = poolResult{after, list}
	}
	for _, list := range [][]int64{nil, back, p.Drawn} {
		after, _ := impl.PutBack(p, list)
		results["PutBack "+strconv.Itoa(len(list))] = poolResult{after, nil}
	}
	read, _ := impl.ReadPool(text)
	results["ReadPool"] = poolResult{read, nil}
	return results
}

func (r poolResult) copied() poolResult {
	return poolResult{copiedPool(r.p), slices.Clone(r.list)}
}

func (r poolResult) equals(other poolResult) bool {
	return equalPools(r.p, other.p) && slices.Equal(r.list, other.list)
}

// checkPartsOfPool checks that no two lists of a result share memory.
func checkPartsOfPool(t *testing.T, what string, r poolResult) {
	t.Helper()
	lists := [][]int64{r.p.Numbers, r.p.Drawn, r.list}
	for i := range lists {
		kept := r.copied()
		keptLists := [][]int64{kept.p.Numbers, kept.p.Drawn, kept.list}
		spoil(lists[i])
		for j := range lists {
			if j != i && !slices.Equal(lists[j], keptLists[j]) {
				t.Errorf("%s: two lists of a result share memory: %v, %v", what, lists[i], lists[j])
			}
		}
		copy(lists[i], keptLists[i])
	}
}

func TestResultsAreNew8(t *testing.T) {
	for name, good := range goodPools() {
		p, whole := poolWithSpare(good)
		kept := copiedPool(whole)
		back, wholeBack := withSpare(good.Drawn[:len(good.Drawn)/2])
		keptBack := slices.Clone(wholeBack)
		text := plainText(good)
		results, again := resultsOf(p, text, back), resultsOf(p, text, back)
		for what, r := range results {
			want := r.copied()
			spoilPool(again[what].p)
			spoil(again[what].list)
			if !r.equals(want) {
				t.Errorf("%s, %s: results of two calls share memory: %v", name, what, r)
			}
			checkPartsOfPool(t, name+", "+what, r)
			spoilPool(r.p)
			spoil(r.list)
			if !equalPools(whole, kept) || !slices.Equal(wholeBack, keptBack) {
				t.Fatalf("%s, %s: a result shares memory with an argument: %v, %v", name, what, whole, wholeBack)
			}
		}
	}
}

// What is put behind a list of a result changes nothing else.
func TestResultsAreApart8(t *testing.T) {
	some := []int64{3, 5, 8, 11, 14, 17, 20}
	p, _ := impl.MakePool(some, 12345)
	one, first, _ := impl.TakeFrom(p, 3)
	kept := copiedPool(one)
	two, second, _ := impl.TakeFrom(one, 2)
	three, third, _ := impl.TakeFrom(one, 4)
	wantTwo, wantThree := refTake(kept, 2), refTake(kept, 4)
	_, _ = append(first, -1, -2), append(one.Drawn, -3, -4)
	_, _ = append(second, -5, -6), append(two.Drawn, -7, -8)
	if !equalPools(one, kept) || !equalPools(two, wantTwo) || !equalPools(three, wantThree) || !slices.Equal(third, wantThree.Drawn[3:]) {
		t.Errorf("results share memory: %v, %v, %v, %v, want %v, %v, %v", one, two, three, third, kept, wantTwo, wantThree)
	}
}

func TestArgumentsAreKept8(t *testing.T) {
	pools := goodPools()
	for name, p := range badPools() {
		if len(p.Drawn) <= 100 {
			pools["no pool: "+name] = p
		}
	}
	for name, good := range pools {
		p, whole := poolWithSpare(good)
		kept := copiedPool(whole)
		list, wholeList := withSpare(good.Drawn)
		slices.Reverse(list)
		keptList := slices.Clone(wholeList)
		impl.IsPool(p)
		for _, k := range []int64{-1, 0, 1, 2, 30, 60, 61} {
			impl.TakeFrom(p, k)
			impl.ChanceOf(p, k)
			impl.IsReplay(p, k)
			impl.MakePool(p.Numbers, k)
		}
		impl.LeftOf(p)
		impl.PoolText(p)
		for n := range len(list) + 1 {
			impl.PutBack(p, list[:n])
			impl.PutBack(p, p.Drawn[:n])
		}
		impl.PutBack(p, wholeList)
		impl.PutBack(p, p.Numbers)
		if !equalPools(whole, kept) || !slices.Equal(wholeList, keptList) {
			t.Errorf("%s: an argument was changed: %v, %v", name, whole, wholeList)
		}
	}
}
