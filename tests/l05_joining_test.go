package tests

import (
	"math"
	"math/rand/v2"
	"slices"
	"strconv"
	"testing"

	"loop.example/g01027/impl"
)

// bornIn returns persons who differ in their years only: those of one year have the likeness 100,
// those of neighbouring years 90, all others 80.
func bornIn(years ...int64) []impl.Person {
	var list []impl.Person
	for i, year := range years {
		list = append(list, impl.Person{Number: int64(3*i + 1), First: "ada", Last: "berg", Born: year, Zone: 5})
	}
	return list
}

// called returns persons who differ in their first names only: equal ones have the likeness 100,
// names one step apart 90, all others 70.
func called(names ...string) []impl.Person {
	var list []impl.Person
	for i, name := range names {
		list = append(list, impl.Person{Number: int64(2*i + 5), First: name, Last: "berg", Born: 1970, Zone: 5})
	}
	return list
}

// strangers returns up to 12 persons any two of whom have the likeness 0.
func strangers(count int) []impl.Person {
	var list []impl.Person
	for i := range count {
		name := string(repeated(5, byte('a'+i)))
		list = append(list, impl.Person{Number: int64(i + 1), First: name, Last: name, Born: int64(1900 + 10*i), Zone: int64(i)})
	}
	return list
}

// ring returns six persons who form a ring with the limit 90; between 0 and 5 there are two
// shortest chains, and the first one depends on the end from which it goes.
func ring() []impl.Person {
	return called("aab", "abb", "bab", "baa", "aba", "bba")
}

// mixed returns persons with random traits of a small choice, always the same ones for a seed.
func mixed(seed uint64, count int) []impl.Person {
	r := rand.New(rand.NewPCG(seed, 5))
	firsts := []string{"ada", "adam", "adams", "eda", "eva", "ida"}
	lasts := []string{"berg", "bergs", "burg", "borgs", "tal"}
	var list []impl.Person
	number := int64(0)
	for range count {
		number += 1 + r.Int64N(80000)
		list = append(list, impl.Person{
			Number: number,
			First:  firsts[r.IntN(1+int(seed%6))],
			Last:   lasts[r.IntN(1+int(seed/6%5))],
			Born:   1970 + r.Int64N(2+int64(seed%11)),
			Zone:   r.Int64N(1 + int64(seed%3)),
		})
	}
	return list
}

// grid returns 12 persons in a grid of first names and years, in a random order; with the limit 90
// neighbours in the grid are alike.
func grid(seed uint64) []impl.Person {
	list := bornIn(repeated(12, int64(1970))...)
	for i, place := range rand.New(rand.NewPCG(seed, 4)).Perm(12) {
		list[i].First = []string{"aaa", "aab", "abb", "bbb"}[place%4]
		list[i].Born += int64(place / 4)
	}
	return list
}

// cube returns eight persons at the corners of a cube, in a random order; with the limit 90
// neighbouring corners are alike.
func cube(seed uint64) []impl.Person {
	var names []string
	for _, corner := range rand.New(rand.NewPCG(seed, 3)).Perm(8) {
		names = append(names, string([]byte{"ab"[corner&1], "ab"[corner>>1&1], "ab"[corner>>2&1]}))
	}
	return called(names...)
}

// row returns 12 persons in a row of years, in a random order.
func row(seed uint64) []impl.Person {
	list := bornIn(repeated(12, int64(1970))...)
	for i, place := range rand.New(rand.NewPCG(seed, 2)).Perm(12) {
		list[i].Born += int64(place)
	}
	return list
}

// joinedLists returns lists whose groups and chains are of many kinds.
func joinedLists() map[string][]impl.Person {
	lists := map[string][]impl.Person{
		"nil": nil, "empty": {}, "one": {ada()}, "two": bornIn(1970, 1971), "ring": ring(),
		"one stranger": strangers(1), "two strangers": strangers(2), "12 strangers": strangers(12),
		"twins": bornIn(1970, 1970), "12 times the same": bornIn(repeated(12, int64(1970))...),
		"between each other": bornIn(1970, 1980, 1971, 1981, 1972, 1990, 1982, 1973, 1970, 1983, 1991, 2000),
	}
	for n := 1; n <= 12; n++ {
		lists["in turn "+strconv.Itoa(n)] = personsTo(n, 90909)
	}
	for seed := range uint64(12) {
		name := strconv.FormatUint(seed, 10)
		lists["grid "+name], lists["cube "+name], lists["row "+name] = grid(seed), cube(seed), row(seed)
	}
	for seed := range uint64(90) {
		lists["mixed "+strconv.FormatUint(seed, 10)] = mixed(seed, 2+int(seed*7%11))
	}
	return lists
}

// likenesses is a table of the likeness of any two persons of a list.
type likenesses [][]int64

func tableOf(list []impl.Person) likenesses {
	table := make(likenesses, len(list))
	for i, a := range list {
		for _, b := range list {
			table[i] = append(table[i], refLikeness(a, b))
		}
	}
	return table
}

// limits returns the limits at which something may change in a list, those beside them, and both ends.
func (table likenesses) limits() []int64 {
	limits := []int64{0, 1, 99, 100}
	for _, row := range table {
		for _, n := range row {
			for limit := max(n-1, 0); limit <= min(n+1, 100); limit++ {
				limits = append(limits, limit)
			}
		}
	}
	slices.Sort(limits)
	return slices.Compact(limits)
}

func (table likenesses) pairs(limit int64) [][]int64 {
	var pairs [][]int64
	for i := range int64(len(table)) {
		for j := range int64(len(table)) {
			if i < j && table[i][j] >= limit {
				pairs = append(pairs, []int64{i, j})
			}
		}
	}
	return pairs
}

// keepers tells everybody's keeper: the least number goes round until nobody hears a lesser one.
func (table likenesses) keepers(limit int64) []int64 {
	keepers := make([]int64, len(table))
	for i := range keepers {
		keepers[i] = int64(i)
	}
	for again := true; again; {
		again = false
		for i := range table {
			for j := range table {
				if table[i][j] >= limit && keepers[i] < keepers[j] {
					keepers[j], again = keepers[i], true
				}
			}
		}
	}
	return keepers
}

func (table likenesses) groups(limit int64) [][]int64 {
	keepers := table.keepers(limit)
	var groups [][]int64
	for k := range int64(len(table)) {
		var group []int64
		for i, keeper := range keepers {
			if keeper == k {
				group = append(group, int64(i))
			}
		}
		if group != nil {
			groups = append(groups, group)
		}
	}
	return groups
}

// chain tries all chains, the shorter ones first and those of one length in lexicographic order.
func (table likenesses) chain(limit, a, b int64) []int64 {
	for length := 1; length <= len(table); length++ {
		if chain := table.prolonged(limit, []int64{a}, b, length); chain != nil {
			return chain
		}
	}
	return nil
}

// prolonged returns the first chain with a length that begins with another one and leads to b.
func (table likenesses) prolonged(limit int64, chain []int64, b int64, length int) []int64 {
	last := chain[len(chain)-1]
	if len(chain) == length {
		if last == b {
			return chain
		}
		return nil
	}
	for next := range int64(len(table)) {
		if table[last][next] >= limit && !slices.Contains(chain, next) {
			if found := table.prolonged(limit, append(slices.Clone(chain), next), b, length); found != nil {
				return found
			}
		}
	}
	return nil
}

// isTight compares the number of the pairs in a group with that of all its pairs.
func (table likenesses) isTight(limit, index int64) bool {
	keepers := table.keepers(limit)
	size, alike := 0, 0
	for i, keeper := range keepers {
		if keeper == keepers[index] {
			size++
			for j := range i {
				if keepers[j] == keeper && table[i][j] >= limit {
					alike++
				}
			}
		}
	}
	return alike == size*(size-1)/2
}

func equalLists(a, b [][]int64) bool {
	return slices.EqualFunc(a, b, slices.Equal[[]int64])
}

func checkPairs(t *testing.T, name string, list []impl.Person, limit int64, want [][]int64) {
	t.Helper()
	if got, code := impl.AlikePairs(list, limit); !equalLists(got, want) || code != impl.ErrNone {
		t.Errorf("%s: AlikePairs with %d is %v, %d, want %v", name, limit, got, code, want)
	}
}

// checkGroups checks all that follows from the groups.
func checkGroups(t *testing.T, name string, list []impl.Person, limit int64, want [][]int64) {
	t.Helper()
	if got, code := impl.GroupsOf(list, limit); !equalLists(got, want) || code != impl.ErrNone {
		t.Errorf("%s: GroupsOf with %d is %v, %d, want %v", name, limit, got, code, want)
	}
	var joined []impl.Person
	for _, group := range want {
		joined = append(joined, list[group[0]])
		for _, i := range group {
			if got, code := impl.KeeperOf(list, limit, i); got != group[0] || code != impl.ErrNone {
				t.Errorf("%s: KeeperOf %d with %d is %d, %d, want %d", name, i, limit, got, code, group[0])
			}
		}
	}
	if got, code := impl.JoinedList(list, limit); !slices.Equal(got, joined) || code != impl.ErrNone {
		t.Errorf("%s: JoinedList with %d is %v, %d, want %v", name, limit, got, code, joined)
	}
	doubles := int64(len(list) - len(want))
	if got, code := impl.CountDuplicates(list, limit); got != doubles || code != impl.ErrNone {
		t.Errorf("%s: CountDuplicates with %d is %d, %d, want %d", name, limit, got, code, doubles)
	}
}

// checkChain checks a chain, and that there is none if want is nil.
func checkChain(t *testing.T, name string, list []impl.Person, limit, a, b int64, want []int64) {
	t.Helper()
	wantCode := int64(impl.ErrNone)
	if want == nil {
		wantCode = impl.ErrNotFound
	}
	if got, code := impl.ChainBetween(list, limit, a, b); !slices.Equal(got, want) || code != wantCode {
		t.Errorf("%s: ChainBetween %d and %d with %d is %v, %d, want %v, %d", name, a, b, limit, got, code, want, wantCode)
	}
}

func checkTight(t *testing.T, name string, list []impl.Person, limit, index int64, want bool) {
	t.Helper()
	if got, code := impl.IsTight(list, limit, index); got != want || code != impl.ErrNone {
		t.Errorf("%s: IsTight of %d with %d is %t, %d, want %t", name, index, limit, got, code, want)
	}
}

// checkSafe checks the least safe limit, and that there is none if want is 101.
func checkSafe(t *testing.T, name string, list []impl.Person, want int64) {
	t.Helper()
	wantCode := int64(impl.ErrNone)
	if want == 101 {
		want, wantCode = 0, impl.ErrNotFound
	}
	if got, code := impl.LeastSafeLimit(list); got != want || code != wantCode {
		t.Errorf("%s: LeastSafeLimit is %d, %d, want %d, %d", name, got, code, want, wantCode)
	}
}

func TestGroupsAndPairs(t *testing.T) {
	cases := []struct {
		name   string
		list   []impl.Person
		limit  int64
		pairs  [][]int64
		groups [][]int64
	}{
		{"nobody", nil, 0, nil, nil},
		{"nobody", []impl.Person{}, 100, nil, nil},
		{"one", bornIn(1970), 0, nil, [][]int64{{0}}},
		{"one", bornIn(1970), 100, nil, [][]int64{{0}}},
		{"twins", bornIn(1970, 1970), 100, [][]int64{{0, 1}}, [][]int64{{0, 1}}},
		{"twins", bornIn(1970, 1970), 0, [][]int64{{0, 1}}, [][]int64{{0, 1}}},
		{"strangers", strangers(3), 0, [][]int64{{0, 1}, {0, 2}, {1, 2}}, [][]int64{{0, 1, 2}}},
		{"strangers", strangers(3), 1, nil, [][]int64{{0}, {1}, {2}}},
		{"a likeness equal to the limit", bornIn(1970, 1971), 90, [][]int64{{0, 1}}, [][]int64{{0, 1}}},
		{"a likeness below the limit", bornIn(1970, 1971), 91, nil, [][]int64{{0}, {1}}},
		{"a row", bornIn(1970, 1971, 1972), 90, [][]int64{{0, 1}, {1, 2}}, [][]int64{{0, 1, 2}}},
		{"a row", bornIn(1970, 1971, 1972), 80, [][]int64{{0, 1}, {0, 2}, {1, 2}}, [][]int64{{0, 1, 2}}},
		{"a row", bornIn(1970, 1971, 1972), 91, nil, [][]int64{{0}, {1}, {2}}},
		{"joined by the last one", bornIn(1970, 1972, 1971), 90, [][]int64{{0, 2}, {1, 2}}, [][]int64{{0, 1, 2}}},
		{"two groups joined by the last one", bornIn(1970, 1974, 1971, 1973, 1972), 90, [][]int64{{0, 2}, {1, 3}, {2, 4}, {3, 4}}, [][]int64{{0, 1, 2, 3, 4}}},
		{"between each other", bornIn(1970, 1980, 1971, 1981, 1972), 90, [][]int64{{0, 2}, {1, 3}, {2, 4}}, [][]int64{{0, 2, 4}, {1, 3}}},
		{"one inside another one", bornIn(1970, 1980, 1980, 1970), 100, [][]int64{{0, 3}, {1, 2}}, [][]int64{{0, 3}, {1, 2}}},
		{"one alone in the middle", bornIn(1970, 1990, 1970), 100, [][]int64{{0, 2}}, [][]int64{{0, 2}, {1}}},
		{"one alone at the end", bornIn(1970, 1971, 1990), 90, [][]int64{{0, 1}}, [][]int64{{0, 1}, {2}}},
		{"one alone in front", bornIn(1990, 1971, 1970), 90, [][]int64{{1, 2}}, [][]int64{{0}, {1, 2}}},
		{"a ring", ring(), 90, [][]int64{{0, 1}, {0, 2}, {1, 4}, {2, 3}, {3, 5}, {4, 5}}, [][]int64{{0, 1, 2, 3, 4, 5}}},
		{"a row of 12, the first in the middle", bornIn(1976, 1971, 1980, 1973, 1978, 1975, 1970, 1977, 1972, 1979, 1974, 1981), 90,
			[][]int64{{0, 5}, {0, 7}, {1, 6}, {1, 8}, {2, 9}, {2, 11}, {3, 8}, {3, 10}, {4, 7}, {4, 9}, {5, 10}},
			[][]int64{{0, 1, 2, 3, 4, 5, 6, 7, 8, 9, 10, 11}}},
		{"a row of 12, limit 91", bornIn(1976, 1971, 1980, 1973, 1978, 1975, 1970, 1977, 1972, 1979, 1974, 1981), 91, nil,
			[][]int64{{0}, {1}, {2}, {3}, {4}, {5}, {6}, {7}, {8}, {9}, {10}, {11}}},
		{"six and six", bornIn(1970, 1980, 1970, 1980, 1970, 1980, 1970, 1980, 1970, 1980, 1970, 1980), 81,
			[][]int64{{0, 2}, {0, 4}, {0, 6}, {0, 8}, {0, 10}, {1, 3}, {1, 5}, {1, 7}, {1, 9}, {1, 11}, {2, 4}, {2, 6}, {2, 8}, {2, 10}, {3, 5}, {3, 7}, {3, 9}, {3, 11}, {4, 6}, {4, 8}, {4, 10}, {5, 7}, {5, 9}, {5, 11}, {6, 8}, {6, 10}, {7, 9}, {7, 11}, {8, 10}, {9, 11}},
			[][]int64{{0, 2, 4, 6, 8, 10}, {1, 3, 5, 7, 9, 11}}},
	}
	for _, c := range cases {
		checkPairs(t, c.name, c.list, c.limit, c.pairs)
		checkGroups(t, c.name, c.list, c.limit, c.groups)
	}
}

func TestAlikePairsAtTheLimit(t *testing.T) {
	one := likePersons()[0]
	for _, other := range likePersons()[1:] {
		list := []impl.Person{one, other}
		likeness := refLikeness(one, other)
		checkPairs(t, "equal", list, likeness, [][]int64{{0, 1}})
		checkGroups(t, "equal", list, likeness, [][]int64{{0, 1}})
		checkTight(t, "equal", list, likeness, 1, true)
		checkChain(t, "equal", list, likeness, 1, 0, []int64{1, 0})
		checkPairs(t, "below", list, likeness+1, nil)
		checkGroups(t, "below", list, likeness+1, [][]int64{{0}, {1}})
		checkTight(t, "below", list, likeness+1, 1, true)
		checkChain(t, "below", list, likeness+1, 1, 0, nil)
		checkSafe(t, "two", list, likeness+1)
	}
}

func TestChainBetween(t *testing.T) {
	inRow := bornIn(1976, 1971, 1980, 1973, 1978, 1975, 1970, 1977, 1972, 1979, 1974, 1981)
	cases := []struct {
		name        string
		list        []impl.Person
		limit, a, b int64
		want        []int64
	}{
		{"to themselves", bornIn(1970), 100, 0, 0, []int64{0}},
		{"to themselves", bornIn(1970), 0, 0, 0, []int64{0}},
		{"to themselves, with a twin", bornIn(1970, 1970), 100, 1, 1, []int64{1}},
		{"to themselves, the last one", inRow, 90, 11, 11, []int64{11}},
		{"twins", bornIn(1970, 1970), 100, 0, 1, []int64{0, 1}},
		{"strangers", strangers(12), 0, 11, 3, []int64{11, 3}},
		{"strangers", strangers(12), 1, 11, 3, nil},
		{"a row", bornIn(1970, 1971, 1972), 90, 0, 2, []int64{0, 1, 2}},
		{"a row back", bornIn(1970, 1971, 1972), 90, 2, 0, []int64{2, 1, 0}},
		{"a row that is not needed", bornIn(1970, 1971, 1972), 80, 0, 2, []int64{0, 2}},
		{"a row that is broken", bornIn(1970, 1971, 1973), 90, 0, 2, nil},
		{"over a later one", bornIn(1970, 1972, 1971), 90, 0, 1, []int64{0, 2, 1}},
		{"over the first one", bornIn(1971, 1972, 1970), 90, 1, 2, []int64{1, 0, 2}},
		{"different groups", bornIn(1970, 1980, 1971, 1981, 1972), 90, 0, 1, nil},
		{"different groups", bornIn(1970, 1980, 1971, 1981, 1972), 90, 3, 4, nil},
		{"between each other", bornIn(1970, 1980, 1971, 1981, 1972), 90, 4, 0, []int64{4, 2, 0}},
		{"two ways", bornIn(1970, 1971, 1971, 1972), 90, 0, 3, []int64{0, 1, 3}},
		{"two ways back", bornIn(1970, 1971, 1971, 1972), 90, 3, 0, []int64{3, 1, 0}},
		{"two ways, one over the first", bornIn(1971, 1970, 1972, 1971), 90, 1, 2, []int64{1, 0, 2}},
		{"four ways", bornIn(1973, 1972, 1972, 1971, 1971, 1970), 90, 5, 0, []int64{5, 3, 1, 0}},
		{"four ways back", bornIn(1973, 1972, 1972, 1971, 1971, 1970), 90, 0, 5, []int64{0, 1, 3, 5}},
		{"a ring", ring(), 90, 0, 5, []int64{0, 1, 4, 5}},
		{"a ring back", ring(), 90, 5, 0, []int64{5, 3, 2, 0}},
		{"a ring, from the side", ring(), 90, 4, 2, []int64{4, 1, 0, 2}},
		{"a ring, the shorter way", ring(), 90, 4, 3, []int64{4, 5, 3}},
		{"a row of 12", inRow, 90, 6, 11, []int64{6, 1, 8, 3, 10, 5, 0, 7, 4, 9, 2, 11}},
		{"a row of 12 back", inRow, 90, 11, 6, []int64{11, 2, 9, 4, 7, 0, 5, 10, 3, 8, 1, 6}},
		{"a row of 12 in one step", inRow, 80, 6, 11, []int64{6, 11}},
	}
	for _, c := range cases {
		checkChain(t, c.name, c.list, c.limit, c.a, c.b, c.want)
	}
}

func TestIsTight(t *testing.T) {
	cases := []struct {
		name         string
		list         []impl.Person
		limit, index int64
		want         bool
	}{
		{"one", bornIn(1970), 0, 0, true},
		{"one", bornIn(1970), 100, 0, true},
		{"one of strangers", strangers(12), 1, 11, true},
		{"strangers", strangers(12), 0, 11, true},
		{"twins", bornIn(1970, 1970), 100, 1, true},
		{"a row of three", bornIn(1970, 1971, 1972), 90, 0, false},
		{"a row of three, its end", bornIn(1970, 1971, 1972), 90, 2, false},
		{"a row of three, its middle", bornIn(1970, 1971, 1972), 90, 1, false},
		{"a middle that is the keeper", bornIn(1971, 1970, 1972), 90, 0, false},
		{"a middle that is the last", bornIn(1970, 1972, 1971), 90, 2, false},
		{"three with a lower limit", bornIn(1970, 1971, 1972), 80, 2, true},
		{"three with a higher limit", bornIn(1970, 1971, 1972), 91, 1, true},
		{"a tight group beside another one", bornIn(1970, 1980, 1971, 1981, 1972), 90, 1, true},
		{"a tight group beside another one", bornIn(1970, 1980, 1971, 1981, 1972), 90, 3, true},
		{"a group beside a tight one", bornIn(1970, 1980, 1971, 1981, 1972), 90, 0, false},
		{"a group beside a tight one", bornIn(1970, 1980, 1971, 1981, 1972), 90, 4, false},
		{"one pair of 12 is missing", bornIn(1970, 1971, 1971, 1971, 1971, 1971, 1971, 1971, 1971, 1971, 1971, 1972), 90, 5, false},
		{"no pair of 12 is missing", bornIn(1970, 1971, 1971, 1971, 1971, 1971, 1971, 1971, 1971, 1971, 1971, 1971), 90, 5, true},
		{"a ring", ring(), 90, 0, false},
		{"a ring", ring(), 70, 0, true},
	}
	for _, c := range cases {
		checkTight(t, c.name, c.list, c.limit, c.index, c.want)
	}
}

func TestLeastSafeLimit(t *testing.T) {
	checkSafe(t, "nil", nil, 0)
	checkSafe(t, "empty", []impl.Person{}, 0)
	checkSafe(t, "one", bornIn(1970), 0)
	for n := 2; n <= 12; n++ {
		checkSafe(t, "strangers", strangers(n), 1)
	}
	checkSafe(t, "two in a zone", append(strangers(3)[:2], impl.Person{Number: 9, First: "ida", Last: "tal", Born: 1950, Zone: 1}), 11)
	checkSafe(t, "neighbours", bornIn(1970, 1980, 1990, 1971), 91)
	checkSafe(t, "far years", bornIn(1970, 1980, 1990), 81)
	checkSafe(t, "twins", bornIn(1970, 1970), 101)
	checkSafe(t, "the last two are twins", bornIn(1960, 1970, 1980, 1980), 101)
	checkSafe(t, "the first and the last are twins", bornIn(1960, 1970, 1980, 1960), 101)
	checkSafe(t, "the first two are twins", bornIn(1960, 1960, 1970, 1980), 101)
	checkSafe(t, "12 times the same", bornIn(repeated(12, int64(1970))...), 101)
}

// All functions are held against an independent search, for lists of many kinds.
func TestJoining(t *testing.T) {
	for name, list := range joinedLists() {
		table := tableOf(list)
		for _, limit := range table.limits() {
			checkPairs(t, name, list, limit, table.pairs(limit))
			checkGroups(t, name, list, limit, table.groups(limit))
			for a := range int64(len(list)) {
				checkTight(t, name, list, limit, a, table.isTight(limit, a))
				for b := range int64(len(list)) {
					checkChain(t, name, list, limit, a, b, table.chain(limit, a, b))
				}
			}
		}
		safe := int64(0)
		for safe <= 100 && len(table.pairs(safe)) > 0 {
			safe++
		}
		checkSafe(t, name, list, safe)
	}
}

// The promise P5: everybody is in exactly one group, and a higher limit makes no group greater.
func TestEverybodyIsInOneGroup(t *testing.T) {
	for name, list := range joinedLists() {
		before := make([][]int64, len(list)) // everybody's group with the limit before
		for limit := int64(0); limit <= 100; limit++ {
			groups, code := impl.GroupsOf(list, limit)
			if code != impl.ErrNone {
				t.Fatalf("%s: GroupsOf with %d is %v, %d", name, limit, groups, code)
			}
			now := make([][]int64, len(list))
			for _, group := range groups {
				for _, i := range group {
					if now[i] != nil {
						t.Errorf("%s: with %d, %d is in two groups: %v", name, limit, i, groups)
					}
					now[i] = group
				}
			}
			for i, group := range now {
				if group == nil {
					t.Errorf("%s: with %d, %d is in no group: %v", name, limit, i, groups)
				}
				for _, other := range group {
					if limit > 0 && !slices.Contains(before[i], other) {
						t.Errorf("%s: with %d, the group of %d has grown from %v to %v", name, limit, i, before[i], group)
					}
				}
			}
			before = now
		}
	}
}

// joiningResult tells whether a result is the zero value, and the code beside it.
type joiningResult struct {
	isZero bool
	code   int64
}

// joiningCalls returns calls of all functions that take a limit but no index.
func joiningCalls() map[string]func(list []impl.Person, limit int64) joiningResult {
	return map[string]func(list []impl.Person, limit int64) joiningResult{
		"AlikePairs": func(list []impl.Person, limit int64) joiningResult {
			got, code := impl.AlikePairs(list, limit)
			return joiningResult{len(got) == 0, code}
		},
		"GroupsOf": func(list []impl.Person, limit int64) joiningResult {
			got, code := impl.GroupsOf(list, limit)
			return joiningResult{len(got) == 0, code}
		},
		"JoinedList": func(list []impl.Person, limit int64) joiningResult {
			got, code := impl.JoinedList(list, limit)
			return joiningResult{len(got) == 0, code}
		},
		"CountDuplicates": func(list []impl.Person, limit int64) joiningResult {
			got, code := impl.CountDuplicates(list, limit)
			return joiningResult{got == 0, code}
		},
	}
}

// joiningIndexCalls returns calls of all functions that take an index; ChainBetween takes it as its
// first one, its last one and as both.
func joiningIndexCalls() map[string]func(list []impl.Person, limit, index int64) joiningResult {
	chain := func(list []impl.Person, limit, a, b int64) joiningResult {
		got, code := impl.ChainBetween(list, limit, a, b)
		return joiningResult{len(got) == 0, code}
	}
	return map[string]func(list []impl.Person, limit, index int64) joiningResult{
		"KeeperOf": func(list []impl.Person, limit, index int64) joiningResult {
			got, code := impl.KeeperOf(list, limit, index)
			return joiningResult{got == 0, code}
		},
		"IsTight": func(list []impl.Person, limit, index int64) joiningResult {
			got, code := impl.IsTight(list, limit, index)
			return joiningResult{!got, code}
		},
		"ChainBetween a": func(list []impl.Person, limit, index int64) joiningResult {
			return chain(list, limit, index, 0)
		},
		"ChainBetween b": func(list []impl.Person, limit, index int64) joiningResult {
			return chain(list, limit, max(int64(len(list))-1, 0), index)
		},
		"ChainBetween a and b": func(list []impl.Person, limit, index int64) joiningResult {
			return chain(list, limit, index, index)
		},
	}
}

func noLimits() []int64 {
	return []int64{-1, 101, -100, 1000, math.MinInt64, math.MaxInt64}
}

func noIndices(list []impl.Person) []int64 {
	n := int64(len(list))
	return []int64{-1, n, n + 1, -n - 1, 12, 13, math.MinInt64, math.MaxInt64}
}

func TestJoiningOfNoPersons(t *testing.T) {
	want := joiningResult{true, impl.ErrInvalid}
	for name, list := range noLists() {
		for _, limit := range append(noLimits(), 0, 1, 80, 100) {
			for of, call := range joiningCalls() {
				if got := call(list, limit); got != want {
					t.Errorf("%s: %s with %d is %v, want ErrInvalid", name, of, limit, got)
				}
			}
			for of, call := range joiningIndexCalls() {
				for _, index := range append(noIndices(list), 0, int64(len(list)-1)) {
					if got := call(list, limit, index); got != want {
						t.Errorf("%s: %s of %d with %d is %v, want ErrInvalid", name, of, index, limit, got)
					}
				}
			}
		}
		if got, code := impl.LeastSafeLimit(list); got != 0 || code != impl.ErrInvalid {
			t.Errorf("%s: LeastSafeLimit is %d, %d, want ErrInvalid", name, got, code)
		}
	}
}

func TestJoiningWithNoLimit(t *testing.T) {
	want := joiningResult{true, impl.ErrRange}
	for name, list := range joinedLists() {
		for _, limit := range noLimits() {
			for of, call := range joiningCalls() {
				if got := call(list, limit); got != want {
					t.Errorf("%s: %s with %d is %v, want ErrRange", name, of, limit, got)
				}
			}
			for of, call := range joiningIndexCalls() {
				for _, index := range append(noIndices(list), 0, int64(len(list)-1)) {
					if got := call(list, limit, index); got != want {
						t.Errorf("%s: %s of %d with %d is %v, want ErrRange", name, of, index, limit, got)
					}
				}
			}
		}
	}
}

func TestJoiningWithNoIndex(t *testing.T) {
	want := joiningResult{true, impl.ErrRange}
	for name, list := range joinedLists() {
		for _, limit := range []int64{0, 1, 80, 90, 100} {
			for of, call := range joiningIndexCalls() {
				for _, index := range noIndices(list) {
					if index >= 0 && index < int64(len(list)) {
						continue
					}
					if got := call(list, limit, index); got != want {
						t.Errorf("%s: %s of %d with %d is %v, want ErrRange", name, of, index, limit, got)
					}
				}
				if last := int64(len(list)) - 1; last >= 0 {
					if got := call(list, limit, last); got.code == impl.ErrRange {
						t.Errorf("%s: %s of the last index with %d is %v", name, of, limit, got)
					}
				}
			}
		}
	}
	for _, list := range [][]impl.Person{nil, {}} {
		for of, call := range joiningIndexCalls() {
			if got := call(list, 0, 0); got != want {
				t.Errorf("%s of 0 of nobody is %v, want ErrRange", of, got)
			}
		}
	}
}

// checkPartsAreApart overwrites each list of a result, up to its capacity, and looks at all others.
func checkPartsAreApart(t *testing.T, what string, lists [][]int64) {
	t.Helper()
	for i := range lists {
		kept := make([][]int64, len(lists))
		for j := range lists {
			kept[j] = slices.Clone(lists[j])
		}
		whole := lists[i][:cap(lists[i])]
		for k := range whole {
			whole[k] = -7
		}
		for j := range lists {
			if j != i && !slices.Equal(lists[j], kept[j]) {
				t.Fatalf("%s: list %d shares memory with list %d", what, j, i)
			}
		}
	}
}

func TestResultsAreNew5(t *testing.T) {
	for name, list := range joinedLists() {
		table := tableOf(list)
		kept := slices.Clone(list)
		for _, limit := range []int64{0, 1, 80, 90, 100} {
			pairs, _ := impl.AlikePairs(list, limit)
			checkPartsAreApart(t, name+": AlikePairs", pairs)
			checkPairs(t, name, list, limit, table.pairs(limit))
			groups, _ := impl.GroupsOf(list, limit)
			checkPartsAreApart(t, name+": GroupsOf", groups)
			checkGroups(t, name, list, limit, table.groups(limit))
			joined, _ := impl.JoinedList(list, limit)
			joined = joined[:cap(joined)]
			for i := range joined {
				joined[i] = impl.Person{}
			}
			if !slices.Equal(list, kept) {
				t.Fatalf("%s: JoinedList shares memory with its argument", name)
			}
			checkGroups(t, name, list, limit, table.groups(limit))
		}
		if len(list) > 1 {
			one, _ := impl.ChainBetween(list, 0, 0, 1)
			one[0], one[1] = -7, -7
			checkChain(t, name, list, 0, 0, 1, []int64{0, 1})
		}
	}
}

func TestArgumentsAreKept5(t *testing.T) {
	lists := joinedLists()
	for name, list := range noLists() {
		lists["no persons: "+name] = list
	}
	for name, list := range lists {
		spare := append(slices.Clone(list), ada(), impl.Person{}, ada())
		kept := slices.Clone(spare)
		part := spare[:len(list)]
		for _, limit := range []int64{-1, 0, 1, 80, 90, 100, 101} {
			for _, call := range joiningCalls() {
				call(part, limit)
			}
			for _, call := range joiningIndexCalls() {
				for index := int64(-1); index <= int64(len(list)); index++ {
					call(part, limit, index)
				}
			}
		}
		impl.LeastSafeLimit(part)
		if !slices.Equal(spare, kept) {
			t.Errorf("%s: an argument was changed: %v", name, spare)
		}
	}
}
