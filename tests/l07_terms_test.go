package tests

import (
	"maps"
	"math"
	"math/rand/v2"
	"slices"
	"testing"

	"loop.example/g01027/impl"
)

func term(number, from, to int64) impl.Term {
	return impl.Term{Number: number, From: from, To: to}
}

// termsApart returns count terms of one person of length days each, gap days between them.
func termsApart(number, from, length, gap int64, count int) []impl.Term {
	var list []impl.Term
	for range count {
		list = append(list, term(number, from, from+length-1))
		from += length + gap
	}
	return list
}

// oneDayEach returns count terms of one day each, of the persons 1, 2 and so on, all on the same day.
func oneDayEach(count int, day int64) []impl.Term {
	var list []impl.Term
	for i := range count {
		list = append(list, term(int64(i+1), day, day))
	}
	return list
}

// joinedTerms returns all terms of some lists.
func joinedTerms(lists ...[]impl.Term) []impl.Term {
	return slices.Concat(lists...)
}

// goodTerms returns lists of terms, among them each value of a field at its limits.
func goodTerms() map[string][]impl.Term {
	lists := map[string][]impl.Term{
		"nil": nil, "none": {},
		"one": {term(1, 100, 104)}, "one of one day": {term(7, 100, 100)}, "one of two days": {term(7, 100, 101)},
		"the first day": {term(1, 0, 0)}, "the last day": {term(1, 20000, 20000)}, "all days": {term(1, 0, 20000)},
		"up to the last day": {term(9, 19990, 20000)}, "from the first day": {term(9, 0, 10)},
		"the last day but one": {term(9, 19999, 19999)}, "the second day": {term(9, 1, 1)},
		"the greatest number": {term(1000000, 5, 9)}, "the last number but one": {term(999999, 5, 9)},
		"the least and the greatest number": {term(1000000, 5, 9), term(1, 5, 9)},

		"touching":                          {term(3, 10, 19), term(3, 20, 29)},
		"touching, the later one first":     {term(3, 20, 29), term(3, 10, 19)},
		"touching with single days":         {term(3, 10, 10), term(3, 12, 12), term(3, 11, 11)},
		"touching at the first day":         {term(3, 1, 20000), term(3, 0, 0)},
		"touching at the last day":          {term(3, 20000, 20000), term(3, 0, 19999)},
		"touching on both sides":            {term(3, 10, 19), term(3, 30, 39), term(3, 20, 29)},
		"a day between":                     {term(3, 10, 19), term(3, 21, 29)},
		"the same days for two":             {term(3, 10, 19), term(4, 10, 19)},
		"within each other for two":         {term(3, 10, 19), term(4, 12, 15)},
		"within each other for two, behind": {term(4, 12, 15), term(3, 10, 19)},
		"over the end for two":              {term(3, 10, 19), term(4, 19, 25)},
		"two persons in turn":               {term(4, 10, 19), term(3, 15, 24), term(4, 20, 29), term(3, 25, 34)},
		"days falling":                      {term(5, 90, 95), term(5, 60, 65), term(5, 30, 35), term(5, 0, 5)},
		"days in no order":                  {term(5, 60, 65), term(5, 0, 5), term(5, 90, 95), term(5, 30, 35)},
		"persons falling":                   {term(9, 1, 5), term(7, 2, 6), term(5, 3, 7), term(3, 4, 8)},
		"persons in no order":               {term(7, 4, 8), term(3, 2, 6), term(9, 3, 7), term(5, 1, 5)},

		"20 of one person":          termsApart(2, 0, 3, 0, 20),
		"20 of one person, apart":   termsApart(2, 20, 5, 900, 20),
		"20 of one person, far on":  termsApart(2, 19981, 1, 0, 20),
		"20 persons on one day":     oneDayEach(20, 777),
		"20 persons on day 0":       oneDayEach(20, 0),
		"20 persons on day 20000":   oneDayEach(20, 20000),
		"19 of one person":          termsApart(2, 100, 7, 7, 19),
		"two persons, ten each":     joinedTerms(termsApart(8, 0, 5, 5, 10), termsApart(2, 5, 5, 5, 10)),
		"two ties of two":           {term(1, 50, 59), term(2, 55, 64), term(3, 20, 29), term(4, 25, 34)},
		"ties of one":               {term(1, 50, 59), term(2, 10, 12), term(3, 30, 30)},
		"three on the last day":     {term(1, 10, 20), term(2, 20, 30), term(3, 20, 20), term(4, 5, 12)},
		"many on a day of an end":   {term(1, 10, 20), term(2, 20, 30), term(3, 0, 20)},
		"more later":                {term(1, 0, 5), term(2, 3, 8), term(3, 100, 105), term(4, 101, 106), term(5, 102, 107)},
		"rest of exactly 730":       {term(1, 100, 104), term(1, 834, 840)},
		"rest of 729":               {term(1, 100, 104), term(1, 833, 840)},
		"rest of 731":               {term(1, 100, 104), term(1, 835, 840)},
		"a row without rest":        termsApart(6, 50, 10, 700, 15),
		"a row with rest":           termsApart(6, 50, 10, 729, 15),
		"rest up to the last day":   {term(1, 19260, 19270)},
		"rest just over the end":    {term(1, 19260, 19271)},
		"no rest before the end":    {term(1, 19000, 19100), term(1, 19500, 19600)},
		"no rest, the later first":  {term(1, 19500, 19600), term(1, 19000, 19100)},
		"a term on the day of rest": {term(1, 0, 0), term(1, 730, 730), term(1, 1460, 1460)},
	}
	for name, list := range overServedLists() {
		lists["served "+name] = list.terms
	}
	return lists
}

// overServed is a list with the numbers of those who have served on more than 60 days.
type overServed struct {
	terms []impl.Term
	want  []int64
}

func overServedLists() map[string]overServed {
	return map[string]overServed{
		"59 days":                       {[]impl.Term{term(4, 100, 158)}, nil},
		"60 days":                       {[]impl.Term{term(4, 100, 159)}, nil},
		"61 days":                       {[]impl.Term{term(4, 100, 160)}, []int64{4}},
		"59 days in two":                {[]impl.Term{term(4, 100, 129), term(4, 500, 528)}, nil},
		"60 days in two":                {[]impl.Term{term(4, 500, 529), term(4, 100, 129)}, nil},
		"61 days in two":                {[]impl.Term{term(4, 500, 529), term(4, 100, 130)}, []int64{4}},
		"61 days in two that touch":     {[]impl.Term{term(4, 100, 129), term(4, 130, 160)}, []int64{4}},
		"60 days in 20":                 {termsApart(4, 100, 3, 10, 20), nil},
		"61 days in 20":                 {append(termsApart(4, 100, 3, 10, 19), term(4, 5000, 5003)), []int64{4}},
		"59 days in 20":                 {append(termsApart(4, 100, 3, 10, 19), term(4, 5000, 5001)), nil},
		"60 and a day of another one":   {[]impl.Term{term(4, 100, 159), term(5, 160, 160)}, nil},
		"60 each, 61 days in all":       {[]impl.Term{term(4, 100, 159), term(5, 100, 159), term(6, 160, 160)}, nil},
		"61, 60 and 62":                 {[]impl.Term{term(9, 0, 60), term(8, 0, 59), term(7, 0, 61)}, []int64{7, 9}},
		"two, in parts that take turns": {[]impl.Term{term(9, 0, 30), term(2, 0, 30), term(9, 40, 69), term(2, 40, 69), term(5, 0, 59)}, []int64{2, 9}},
		"all days":                      {[]impl.Term{term(1000000, 0, 20000), term(1, 0, 20000)}, []int64{1, 1000000}},
		"20 persons, 61 days each":      {twentyOf(61), numbersTo(21, 1)[1:]},
		"20 persons, 60 days each":      {twentyOf(60), nil},
	}
}

// twentyOf returns a term of some days for each of the persons 20, 19 and so on to 1.
func twentyOf(days int64) []impl.Term {
	var list []impl.Term
	for number := int64(20); number >= 1; number-- {
		list = append(list, term(number, number, number+days-1))
	}
	return list
}

// noTerms returns what is no single term for one fault, and the zero value.
func noTerms() map[string]impl.Term {
	return map[string]impl.Term{
		"zero":     {},
		"number 0": term(0, 100, 104), "number -1": term(-1, 100, 104), "number 1000001": term(1000001, 100, 104),
		"the least number": term(math.MinInt64, 100, 104), "the greatest number": term(math.MaxInt64, 100, 104),
		"from -1": term(1, -1, 104), "from -1 to -1": term(1, -1, -1), "from -1 to 0": term(1, -1, 0), "from the least": term(1, math.MinInt64, 104),
		"to 20001": term(1, 19990, 20001), "20000 to 20001": term(1, 20000, 20001), "only 20001": term(1, 20001, 20001), "to the greatest": term(1, 100, math.MaxInt64),
		"20001 to 20000": term(1, 20001, 20000), "0 to -1": term(1, 0, -1), "all and one before": term(1, -1, 20000), "all and one behind": term(1, 0, 20001),
		"one day before": term(1, 100, 99), "far before": term(1, 20000, 0), "to the least": term(1, 100, math.MinInt64), "from the greatest": term(1, math.MaxInt64, 104),
		"the widest": term(1, math.MinInt64, math.MaxInt64), "the most contrary": term(1, math.MaxInt64, math.MinInt64),
	}
}

// sharedDays returns pairs of terms of one person that have a day in common.
func sharedDays() map[string][2]impl.Term {
	return map[string][2]impl.Term{
		"the last and first day":    {term(5, 1000, 1010), term(5, 1010, 1020)},
		"two days":                  {term(5, 1000, 1010), term(5, 1009, 1020)},
		"the same days":             {term(5, 1000, 1010), term(5, 1000, 1010)},
		"the same day":              {term(5, 1000, 1000), term(5, 1000, 1000)},
		"the first day":             {term(5, 1000, 1000), term(5, 1000, 1010)},
		"the last day":              {term(5, 1000, 1010), term(5, 1010, 1010)},
		"one within the other":      {term(5, 1000, 1010), term(5, 1003, 1007)},
		"within, from the same day": {term(5, 1000, 1010), term(5, 1000, 1007)},
		"within, to the same day":   {term(5, 1000, 1010), term(5, 1003, 1010)},
		"day 0":                     {term(5, 0, 10), term(5, 0, 0)},
		"day 20000":                 {term(5, 20000, 20000), term(5, 1010, 20000)},
		"all days":                  {term(5, 0, 20000), term(5, 1005, 1005)},
		"for the greatest number":   {term(1000000, 1000, 1010), term(1000000, 1010, 1020)},
	}
}

// badTerms returns lists that are no terms, for one fault each.
func badTerms() map[string][]impl.Term {
	lists := map[string][]impl.Term{
		"21 of one person": termsApart(2, 0, 3, 5, 21), "21 persons": oneDayEach(21, 777), "1000 of one person": termsApart(2, 0, 3, 5, 1000),
		"21 of one person that touch": termsApart(2, 0, 3, 0, 21), "21 times the same": repeated(21, term(1, 5, 9)), "21 zero values": repeated(21, impl.Term{}),
		"20 times the same": repeated(20, term(1, 5, 9)), "two behind one that includes both": {term(1, 0, 99), term(1, 10, 20), term(1, 50, 60)},
		"the first and the last of 20": append(termsApart(2, 100, 3, 5, 19), term(2, 102, 103)), "the last two of 20": append(termsApart(2, 100, 3, 5, 19), term(2, 246, 246)),
		"a long one over 19": append(termsApart(2, 100, 3, 5, 19), term(2, 0, 20000)), "in a gap, a day too long": append(termsApart(2, 100, 3, 5, 19), term(2, 103, 108)),
	}
	others := []impl.Term{term(1, 1000, 1020), term(9, 1005, 1005), term(4, 990, 1004), term(6, 1011, 1030), term(5, 2000, 2010), term(5, 500, 510)}
	for name, no := range noTerms() {
		lists[name] = []impl.Term{no}
		lists[name+" in front"] = append([]impl.Term{no}, termsApart(2, 5000, 3, 5, 3)...)
		lists[name+" behind"] = append(termsApart(2, 5000, 3, 5, 19), no)
		lists[name+" inside"] = joinedTerms(termsApart(3, 5000, 3, 5, 3), []impl.Term{no}, termsApart(4, 5000, 3, 5, 3))
	}
	for name, pair := range sharedDays() {
		a, b := pair[0], pair[1]
		lists[name] = []impl.Term{a, b}
		lists[name+", the other way"] = []impl.Term{b, a}
		if a.Number == 5 && a.From >= 1000 && b.To <= 1020 {
			lists[name+", around others"] = joinedTerms([]impl.Term{a}, others, []impl.Term{b})
			lists[name+", the other way around others"] = joinedTerms([]impl.Term{b}, others, []impl.Term{a})
			lists[name+", between others"] = joinedTerms(others[:3], []impl.Term{b}, others[3:5], []impl.Term{a}, others[5:])
		}
	}
	return lists
}

// ledger is an independent record of service: for each person the days on which they serve, marked
// one by one, and the days on which they begin to.
type ledger struct {
	serves map[int64][]int64
	begins map[int64][]int64
}

// ledgerOf returns the ledger of a list, and whether its terms are terms.
func ledgerOf(list []impl.Term) (ledger, bool) {
	l := ledger{map[int64][]int64{}, map[int64][]int64{}}
	for _, t := range list {
		if t.Number < 1 || t.Number > 1000000 || t.From < 0 || t.To > lastDay || t.From > t.To {
			return l, false
		}
		for day := t.From; day <= t.To; day++ {
			l.serves[t.Number] = append(l.serves[t.Number], day)
		}
		l.begins[t.Number] = append(l.begins[t.Number], t.From)
	}
	for number, days := range l.serves {
		slices.Sort(days)
		slices.Sort(l.begins[number])
		if len(slices.Compact(slices.Clone(days))) < len(days) {
			return l, false
		}
	}
	return l, len(list) <= 20
}

// goodLedger returns the ledger of a list, which has to be one of terms.
func goodLedger(t *testing.T, what string, list []impl.Term) ledger {
	t.Helper()
	l, ok := ledgerOf(list)
	if !ok {
		t.Fatalf("%s: the test's list is no list of terms: %v", what, list)
	}
	return l
}

// restless returns, for each day, whether a person is not rested on it. Each day of service spoils
// the rest of the next 729 days, and of the day itself unless a term begins on it.
func (l ledger) restless(number int64) []bool {
	days := make([]bool, lastDay+1)
	marked := int64(-1)
	for _, served := range l.serves[number] {
		from := served
		if slices.Contains(l.begins[number], served) {
			from++
		}
		for day := max(from, marked+1); day <= min(served+729, lastDay); day++ {
			days[day] = true
			marked = day
		}
	}
	return days
}

// restedFrom returns, for each day, the first day of rest that is not before it, or -1.
func (l ledger) restedFrom(number int64) []int64 {
	days := make([]int64, lastDay+1)
	next := int64(-1)
	restless := l.restless(number)
	for day := int64(lastDay); day >= 0; day-- {
		if !restless[day] {
			next = day
		}
		days[day] = next
	}
	return days
}

// on returns the numbers of those who serve on a day.
func (l ledger) on(day int64) []int64 {
	var numbers []int64
	for number, days := range l.serves {
		if _, found := slices.BinarySearch(days, day); found {
			numbers = append(numbers, number)
		}
	}
	slices.Sort(numbers)
	return numbers
}

// over returns the numbers of those who serve on more than 60 days.
func (l ledger) over() []int64 {
	var numbers []int64
	for number, days := range l.serves {
		if len(days) > 60 {
			numbers = append(numbers, number)
		}
	}
	slices.Sort(numbers)
	return numbers
}

// busiest returns the first day on which the most serve, and their number, 0 if nobody ever does.
func (l ledger) busiest() (day, count int64) {
	counts := make([]int64, lastDay+1)
	for _, days := range l.serves {
		for _, d := range days {
			counts[d]++
		}
	}
	for d, n := range counts {
		if n > count {
			day, count = int64(d), n
		}
	}
	return day, count
}

// people returns the numbers of all who have a term, and of some who have none.
func (l ledger) people() []int64 {
	numbers := []int64{1, 2, 10, 999999, 1000000}
	for number := range l.serves {
		numbers = append(numbers, number)
	}
	slices.Sort(numbers)
	return slices.Compact(numbers)
}

// daysAround returns the days at both ends and those around all days at which something changes.
func daysAround(list []impl.Term) []int64 {
	days := []int64{0, 1, 2, 729, 730, 731, 10000, lastDay - 731, lastDay - 730, lastDay - 729, lastDay - 1, lastDay}
	for _, t := range list {
		for _, day := range []int64{t.From, t.To, t.From + 730, t.To + 730, t.From - 730} {
			days = append(days, day-2, day-1, day, day+1, day+2)
		}
	}
	slices.Sort(days)
	days = slices.Compact(days)
	return slices.DeleteFunc(days, func(day int64) bool { return day < 0 || day > lastDay })
}

func checkServed(t *testing.T, what string, list []impl.Term, number, want int64) {
	t.Helper()
	if got, code := impl.DaysServed(list, number); got != want || code != impl.ErrNone {
		t.Errorf("%s: DaysServed by %d is %d, %d, want %d", what, number, got, code, want)
	}
}

func checkRested(t *testing.T, what string, list []impl.Term, number, day int64, want bool) {
	t.Helper()
	if got, code := impl.IsRested(list, number, day); got != want || code != impl.ErrNone {
		t.Errorf("%s: IsRested of %d on %d is %t, %d, want %t", what, number, day, got, code, want)
	}
}

// checkRestedFrom checks RestedFrom, and that there is no day if want is -1.
func checkRestedFrom(t *testing.T, what string, list []impl.Term, number, day, want int64) {
	t.Helper()
	wantCode := int64(impl.ErrNone)
	if want < 0 {
		want, wantCode = 0, impl.ErrLimit
	}
	if got, code := impl.RestedFrom(list, number, day); got != want || code != wantCode {
		t.Errorf("%s: RestedFrom of %d on %d is %d, %d, want %d, %d", what, number, day, got, code, want, wantCode)
	}
}

func checkServing(t *testing.T, what string, list []impl.Term, day int64, want []int64) {
	t.Helper()
	if got, code := impl.ServingOn(list, day); !slices.Equal(got, want) || code != impl.ErrNone {
		t.Errorf("%s: ServingOn %d is %v, %d, want %v", what, day, got, code, want)
	}
}

func checkOver(t *testing.T, what string, list []impl.Term, want []int64) {
	t.Helper()
	if got, code := impl.OverServed(list); !slices.Equal(got, want) || code != impl.ErrNone {
		t.Errorf("%s: OverServed is %v, %d, want %v", what, got, code, want)
	}
}

// checkBusiest checks BusiestDay, and that there is none if nobody serves on it.
func checkBusiest(t *testing.T, what string, list []impl.Term, day, count int64) {
	t.Helper()
	wantCode := int64(impl.ErrNone)
	if count == 0 {
		wantCode = impl.ErrNotFound
	}
	if got, n, code := impl.BusiestDay(list); got != day || n != count || code != wantCode {
		t.Errorf("%s: BusiestDay is %d, %d, %d, want %d, %d, %d", what, got, n, code, day, count, wantCode)
	}
}

// checkAdded checks AddTerm, and that it is refused if the result would be no terms.
func checkAdded(t *testing.T, what string, list []impl.Term, further impl.Term) {
	t.Helper()
	want, wantCode := append(slices.Clone(list), further), int64(impl.ErrNone)
	if _, ok := ledgerOf(want); !ok {
		want, wantCode = nil, impl.ErrState
	}
	if got, code := impl.AddTerm(list, further); !slices.Equal(got, want) || code != wantCode {
		t.Errorf("%s: AddTerm of %v is %v, %d, want %v, %d", what, further, got, code, want, wantCode)
	}
}

// checkTerms checks all functions for terms, on some days, by their ledger.
func checkTerms(t *testing.T, what string, list []impl.Term, days []int64) {
	t.Helper()
	l := goodLedger(t, what, list)
	if !impl.AreTerms(list) {
		t.Errorf("%s: AreTerms of %v is false", what, list)
	}
	for _, number := range l.people() {
		checkServed(t, what, list, number, int64(len(l.serves[number])))
		restless, from := l.restless(number), l.restedFrom(number)
		for _, day := range days {
			checkRested(t, what, list, number, day, !restless[day])
			checkRestedFrom(t, what, list, number, day, from[day])
		}
	}
	for _, day := range days {
		checkServing(t, what, list, day, l.on(day))
	}
	checkOver(t, what, list, l.over())
	day, count := l.busiest()
	checkBusiest(t, what, list, day, count)
}

func TestConstants7(t *testing.T) {
	got := []int64{impl.MaxTerms, impl.RestDays, impl.MostDays}
	if want := []int64{20, 730, 60}; !slices.Equal(got, want) {
		t.Errorf("constants are %v, want %v", got, want)
	}
}

func TestAreTerms(t *testing.T) {
	for name, list := range goodTerms() {
		if !impl.AreTerms(list) {
			t.Errorf("%s: AreTerms of %v is false", name, list)
		}
	}
	for name, list := range badTerms() {
		if impl.AreTerms(list) {
			t.Errorf("%s: AreTerms of %v is true", name, list)
		}
	}
}

func TestAreTermsOfOneTerm(t *testing.T) {
	for _, number := range []int64{-1, 0, 1, 2, 999999, 1000000, 1000001} {
		for _, from := range []int64{-1, 0, 1, 100, 19999, 20000, 20001} {
			for _, to := range []int64{-1, 0, 1, 99, 100, 101, 19999, 20000, 20001} {
				want := number >= 1 && number <= 1000000 && from >= 0 && to <= 20000 && from <= to
				if got := impl.AreTerms([]impl.Term{term(number, from, to)}); got != want {
					t.Errorf("AreTerms of %d from %d to %d is %t", number, from, to, got)
				}
			}
		}
	}
}

// All pairs of terms of two persons on a few days, and all triples.
func TestAreTermsOfAllShortLists(t *testing.T) {
	var all []impl.Term
	for number := int64(1); number <= 2; number++ {
		for from := int64(0); from <= 3; from++ {
			for to := from; to <= 3; to++ {
				all = append(all, term(number, from, to))
			}
		}
	}
	for _, a := range all {
		for _, b := range all {
			for _, c := range all {
				for _, list := range [][]impl.Term{{a, b}, {a, b, c}} {
					l, want := ledgerOf(list)
					if got := impl.AreTerms(list); got != want {
						t.Fatalf("AreTerms of %v is %t", list, got)
					}
					if want {
						for day := int64(0); day <= 4; day++ {
							checkServing(t, "short", list, day, l.on(day))
						}
					}
				}
				if _, ok := ledgerOf([]impl.Term{a, b}); ok {
					checkAdded(t, "short", []impl.Term{a, b}, c)
				}
			}
		}
	}
}

func TestAddTerm(t *testing.T) {
	full := termsApart(2, 0, 3, 5, 20)
	cases := []struct {
		name    string
		list    []impl.Term
		further impl.Term
		code    int64
	}{
		{"to nil", nil, term(1, 100, 104), impl.ErrNone},
		{"to none", []impl.Term{}, term(1, 100, 104), impl.ErrNone},
		{"all days", nil, term(1000000, 0, 20000), impl.ErrNone},
		{"behind", []impl.Term{term(1, 100, 104)}, term(1, 200, 204), impl.ErrNone},
		{"before, but at the end", []impl.Term{term(1, 100, 104)}, term(1, 0, 4), impl.ErrNone},
		{"touching behind", []impl.Term{term(1, 100, 104)}, term(1, 105, 109), impl.ErrNone},
		{"touching before", []impl.Term{term(1, 100, 104)}, term(1, 95, 99), impl.ErrNone},
		{"into a gap", []impl.Term{term(1, 100, 104), term(1, 110, 114)}, term(1, 105, 109), impl.ErrNone},
		{"too long for a gap", []impl.Term{term(1, 100, 104), term(1, 110, 114)}, term(1, 105, 110), impl.ErrState},
		{"too long for a gap in front", []impl.Term{term(1, 100, 104), term(1, 110, 114)}, term(1, 104, 109), impl.ErrState},
		{"around a term", []impl.Term{term(1, 100, 104)}, term(1, 99, 105), impl.ErrState},
		{"within a term", []impl.Term{term(1, 100, 104)}, term(1, 101, 103), impl.ErrState},
		{"once more", []impl.Term{term(1, 100, 104)}, term(1, 100, 104), impl.ErrState},
		{"once more for another person", []impl.Term{term(1, 100, 104)}, term(2, 100, 104), impl.ErrNone},
		{"the 20th one", full[:19], term(3, 0, 9), impl.ErrNone},
		{"the 21st one", full, term(3, 0, 9), impl.ErrState},
		{"the 21st one, which is none", full, term(0, 0, 9), impl.ErrState},
		{"the 21st one, which shares days", full, full[0], impl.ErrState},
		{"the zero value", nil, impl.Term{}, impl.ErrState},
		{"a wrong number", []impl.Term{term(1, 100, 104)}, term(1000001, 0, 4), impl.ErrState},
		{"a wrong day", []impl.Term{term(1, 100, 104)}, term(1, 19996, 20001), impl.ErrState},
		{"days that fall", []impl.Term{term(1, 100, 104)}, term(1, 200, 199), impl.ErrState},
		{"to what is no term", []impl.Term{{}}, term(1, 100, 104), impl.ErrInvalid},
		{"to 21 terms", append(slices.Clone(full), term(3, 0, 9)), term(4, 0, 9), impl.ErrInvalid},
		{"to terms that share a day", []impl.Term{term(1, 0, 5), term(1, 5, 9)}, term(2, 0, 9), impl.ErrInvalid},
		{"to what is no term, what is none", []impl.Term{{}}, impl.Term{}, impl.ErrInvalid},
	}
	for _, c := range cases {
		var want []impl.Term
		if c.code == impl.ErrNone {
			want = append(slices.Clone(c.list), c.further)
		}
		if got, code := impl.AddTerm(c.list, c.further); !slices.Equal(got, want) || code != c.code {
			t.Errorf("%s: AddTerm is %v, %d, want %v, %d", c.name, got, code, want, c.code)
		}
	}
}

func TestAddTermToAllLists(t *testing.T) {
	for name, list := range goodTerms() {
		for what, no := range noTerms() {
			if got, code := impl.AddTerm(list, no); len(got) != 0 || code != impl.ErrState {
				t.Errorf("%s, %s: AddTerm is %v, %d, want ErrState", name, what, got, code)
			}
		}
		for _, day := range daysAround(list) {
			for _, number := range []int64{1, 3, 5, 1000000} {
				checkAdded(t, name, list, term(number, day, day))
				checkAdded(t, name, list, term(number, day, min(day+1, lastDay)))
				checkAdded(t, name, list, term(number, max(day-9, 0), day))
			}
		}
	}
}

func TestDaysServed(t *testing.T) {
	cases := []struct {
		name         string
		list         []impl.Term
		number, want int64
	}{
		{"nil", nil, 1, 0},
		{"no terms", []impl.Term{}, 1000000, 0},
		{"no term of the person", []impl.Term{term(1, 100, 104)}, 2, 0},
		{"one term", []impl.Term{term(1, 100, 104)}, 1, 5},
		{"one day", []impl.Term{term(1, 100, 100)}, 1, 1},
		{"day 0", []impl.Term{term(1, 0, 0)}, 1, 1},
		{"all days", []impl.Term{term(1000000, 0, 20000)}, 1000000, 20001},
		{"several terms", []impl.Term{term(1, 100, 104), term(1, 0, 9), term(1, 200, 200)}, 1, 16},
		{"terms that touch", []impl.Term{term(1, 100, 104), term(1, 105, 109)}, 1, 10},
		{"terms of others between", []impl.Term{term(1, 100, 104), term(2, 0, 9), term(1, 200, 200), term(3, 0, 9)}, 1, 6},
		{"20 terms", termsApart(2, 0, 3, 5, 20), 2, 60},
	}
	for _, c := range cases {
		checkServed(t, c.name, c.list, c.number, c.want)
	}
}

func TestIsRested(t *testing.T) {
	one := []impl.Term{term(1, 100, 104)}
	two := []impl.Term{term(1, 2000, 2004), term(1, 100, 104)}
	cases := []struct {
		name        string
		list        []impl.Term
		number, day int64
		want        bool
	}{
		{"nil, the first day", nil, 1, 0, true},
		{"nil, the last day", nil, 1, 20000, true},
		{"no term of the person", one, 2, 105, true},
		{"before the term", one, 1, 99, true},
		{"the day on which it begins", one, 1, 100, true},
		{"the day behind", one, 1, 101, false},
		{"the last day of the term", one, 1, 104, false},
		{"behind the term", one, 1, 105, false},
		{"729 days behind", one, 1, 833, false},
		{"730 days behind", one, 1, 834, true},
		{"731 days behind", one, 1, 835, true},
		{"the last day", one, 1, 20000, true},
		{"between two", two, 1, 833, false},
		{"rested between two", two, 1, 834, true},
		{"before the second one", two, 1, 1999, true},
		{"on its first day", two, 1, 2000, true},
		{"on its second day", two, 1, 2001, false},
		{"729 days behind it", two, 1, 2733, false},
		{"730 days behind it", two, 1, 2734, true},
		{"a term of one day, on it", []impl.Term{term(1, 100, 100)}, 1, 100, true},
		{"a term of one day, behind it", []impl.Term{term(1, 100, 100)}, 1, 101, false},
		{"a term of one day, 729 days behind", []impl.Term{term(1, 100, 100)}, 1, 829, false},
		{"a term of one day, 730 days behind", []impl.Term{term(1, 100, 100)}, 1, 830, true},
		{"a term from day 0, on it", []impl.Term{term(1, 0, 9)}, 1, 0, true},
		{"a term from day 0, on day 1", []impl.Term{term(1, 0, 9)}, 1, 1, false},
		{"a term begins, another one is just over", []impl.Term{term(1, 100, 104), term(1, 105, 109)}, 1, 105, false},
		{"a term begins after 729 days", []impl.Term{term(1, 100, 104), term(1, 833, 840)}, 1, 833, false},
		{"a term begins after 730 days", []impl.Term{term(1, 100, 104), term(1, 834, 840)}, 1, 834, true},
		{"the last day, 730 days behind", []impl.Term{term(1, 19260, 19270)}, 1, 20000, true},
		{"the last day, 729 days behind", []impl.Term{term(1, 19260, 19271)}, 1, 20000, false},
		{"the last day on which a term begins", []impl.Term{term(1, 20000, 20000)}, 1, 20000, true},
		{"the last day of all", []impl.Term{term(1, 0, 20000)}, 1, 20000, false},
	}
	for _, c := range cases {
		checkRested(t, c.name, c.list, c.number, c.day, c.want)
	}
}

func TestRestedFrom(t *testing.T) {
	one := []impl.Term{term(1, 100, 104)}
	cases := []struct {
		name              string
		list              []impl.Term
		number, day, want int64
	}{
		{"nil, the first day", nil, 1, 0, 0},
		{"nil, the last day", nil, 1000000, 20000, 20000},
		{"no term of the person", one, 2, 105, 105},
		{"at once, before the term", one, 1, 99, 99},
		{"at once, on its first day", one, 1, 100, 100},
		{"during the term", one, 1, 101, 834},
		{"on its last day", one, 1, 104, 834},
		{"behind the term", one, 1, 105, 834},
		{"a day too early", one, 1, 833, 834},
		{"at once, after 730 days", one, 1, 834, 834},
		{"at once, after 731 days", one, 1, 835, 835},
		{"the next term begins before", []impl.Term{term(1, 100, 104), term(1, 800, 809)}, 1, 101, 1539},
		{"the next term begins before, told first", []impl.Term{term(1, 800, 809), term(1, 100, 104)}, 1, 101, 1539},
		{"the next term begins a day before", []impl.Term{term(1, 833, 840), term(1, 100, 104)}, 1, 101, 1570},
		{"the next term begins on that day", []impl.Term{term(1, 834, 840), term(1, 100, 104)}, 1, 101, 834},
		{"the next term begins a day behind", []impl.Term{term(1, 835, 840), term(1, 100, 104)}, 1, 101, 834},
		{"from the first day of the next term", []impl.Term{term(1, 834, 840), term(1, 100, 104)}, 1, 834, 834},
		{"from the second day of the next term", []impl.Term{term(1, 834, 840), term(1, 100, 104)}, 1, 835, 1570},
		{"a row of terms", termsApart(6, 50, 10, 700, 15), 6, 51, 10729},
		{"a row of terms, told backwards", reversed(termsApart(6, 50, 10, 700, 15)), 6, 51, 10729},
		{"a row of terms with a rest", append(reversed(termsApart(6, 50, 10, 700, 4)), termsApart(6, 5000, 10, 700, 3)...), 6, 51, 2919},
		{"a term of another one begins before", []impl.Term{term(1, 100, 104), term(2, 800, 809)}, 1, 101, 834},
		{"the last day", []impl.Term{term(1, 19260, 19270)}, 1, 19261, 20000},
		{"a day behind the last one", []impl.Term{term(1, 19260, 19271)}, 1, 19261, -1},
		{"at once, before the last rest", []impl.Term{term(1, 19260, 19271)}, 1, 19260, 19260},
		{"none on the last day", []impl.Term{term(1, 19260, 19271)}, 1, 20000, -1},
		{"none, by the next term", []impl.Term{term(1, 19500, 19600), term(1, 19000, 19100)}, 1, 19001, -1},
		{"on the last day, on which a term begins", []impl.Term{term(1, 19260, 19270), term(1, 20000, 20000)}, 1, 19270, 20000},
		{"a term that begins on the last day", []impl.Term{term(1, 20000, 20000)}, 1, 20000, 20000},
		{"none but the first day", []impl.Term{term(1, 0, 20000)}, 1, 1, -1},
		{"the first day", []impl.Term{term(1, 0, 20000)}, 1, 0, 0},
	}
	for _, c := range cases {
		checkRestedFrom(t, c.name, c.list, c.number, c.day, c.want)
	}
}

// reversed returns a list backwards.
func reversed(list []impl.Term) []impl.Term {
	list = slices.Clone(list)
	slices.Reverse(list)
	return list
}

func TestServingOn(t *testing.T) {
	list := []impl.Term{term(9, 10, 19), term(2, 15, 24), term(1000000, 15, 15), term(2, 25, 29), term(1, 0, 10)}
	want := map[int64][]int64{
		0: {1}, 9: {1}, 10: {1, 9}, 11: {9}, 14: {9}, 15: {2, 9, 1000000}, 16: {2, 9}, 19: {2, 9}, 20: {2}, 24: {2}, 25: {2}, 29: {2}, 30: nil, 20000: nil,
	}
	for day, numbers := range want {
		checkServing(t, "several", list, day, numbers)
		checkServing(t, "several, told backwards", reversed(list), day, numbers)
	}
	for _, none := range [][]impl.Term{nil, {}} {
		for _, day := range []int64{0, 100, 20000} {
			checkServing(t, "no terms", none, day, nil)
		}
	}
	checkServing(t, "20 persons", oneDayEach(20, 777), 777, numbersTo(21, 1)[1:])
	checkServing(t, "20 persons, told backwards", reversed(oneDayEach(20, 777)), 777, numbersTo(21, 1)[1:])
	checkServing(t, "the first day", []impl.Term{term(1, 0, 0)}, 0, []int64{1})
	checkServing(t, "the last day", []impl.Term{term(1, 20000, 20000)}, 20000, []int64{1})
}

func TestOverServed(t *testing.T) {
	for name, c := range overServedLists() {
		checkOver(t, name, c.terms, c.want)
		checkOver(t, name+", told backwards", reversed(c.terms), c.want)
	}
	checkOver(t, "nil", nil, nil)
	checkOver(t, "no terms", []impl.Term{}, nil)
}

func TestBusiestDay(t *testing.T) {
	cases := []struct {
		name       string
		list       []impl.Term
		day, count int64
	}{
		{"nil", nil, 0, 0},
		{"no terms", []impl.Term{}, 0, 0},
		{"one", []impl.Term{term(1, 100, 104)}, 100, 1},
		{"on day 0", []impl.Term{term(1, 0, 0)}, 0, 1},
		{"on the last day", []impl.Term{term(1, 20000, 20000)}, 20000, 1},
		{"two of one person", []impl.Term{term(1, 100, 104), term(1, 50, 54)}, 50, 1},
		{"two of one person that touch", []impl.Term{term(1, 100, 104), term(1, 105, 109)}, 100, 1},
		{"a tie of one", []impl.Term{term(1, 50, 59), term(2, 10, 12), term(3, 30, 30)}, 10, 1},
		{"a tie of two", []impl.Term{term(1, 50, 59), term(2, 55, 64), term(3, 20, 29), term(4, 25, 34)}, 25, 2},
		{"a tie of two, told in order", []impl.Term{term(3, 20, 29), term(4, 25, 34), term(1, 50, 59), term(2, 55, 64)}, 25, 2},
		{"a shared last and first day", []impl.Term{term(1, 10, 20), term(2, 20, 30)}, 20, 2},
		{"more later", []impl.Term{term(1, 0, 5), term(2, 3, 8), term(3, 100, 105), term(4, 101, 106), term(5, 102, 107)}, 102, 3},
		{"fewer later", []impl.Term{term(3, 100, 105), term(4, 101, 106), term(1, 0, 5), term(2, 3, 8), term(5, 4, 4)}, 4, 3},
		{"one just over", []impl.Term{term(1, 10, 19), term(2, 20, 29), term(3, 15, 24)}, 15, 2},
		{"20 persons", oneDayEach(20, 777), 777, 20},
		{"20 persons, day by day", twentyOf(61), 20, 20},
		{"20 persons, each for a day of their own", twentyOf(1), 1, 1},
		{"20 persons, all on one day only", twentyOf(20), 20, 20},
		{"20 persons, never all at once", twentyOf(19), 19, 19},
	}
	for _, c := range cases {
		checkBusiest(t, c.name, c.list, c.day, c.count)
		checkBusiest(t, c.name+", told backwards", reversed(c.list), c.day, c.count)
	}
}

func TestTermsByTheLedger(t *testing.T) {
	for name, list := range goodTerms() {
		checkTerms(t, name, list, daysAround(list))
		checkTerms(t, name+", told backwards", reversed(list), daysAround(list))
	}
}

// randomTerms returns random terms of a few persons on the first days, always the same ones for a
// generator in the same state.
func randomTerms(g *rand.Rand, persons, days, longest int64) []impl.Term {
	var list []impl.Term
	for range g.IntN(40) {
		from := g.Int64N(days)
		further := append(slices.Clone(list), term(1+g.Int64N(persons), from, min(from+g.Int64N(longest), lastDay)))
		if _, ok := ledgerOf(further); ok {
			list = further
		}
	}
	return list
}

func TestRandomTerms(t *testing.T) {
	g := rand.New(rand.NewPCG(1, 7))
	for range 30 {
		for _, of := range [][3]int64{{1, 20001, 400}, {2, 3000, 100}, {3, 300, 40}, {8, 60, 30}, {20, 2000, 900}, {5, 20001, 30}} {
			list := randomTerms(g, of[0], of[1], of[2])
			days := daysAround(list)
			for range 20 {
				days = append(days, g.Int64N(of[1]))
			}
			checkTerms(t, "random", list, days)
		}
	}
}

func TestRandomListsWithFaults(t *testing.T) {
	g := rand.New(rand.NewPCG(2, 7))
	for range 4000 {
		var list []impl.Term
		for range g.IntN(23) {
			from := g.Int64N(400) - 1
			list = append(list, term(g.Int64N(30), from, from+g.Int64N(12)-1))
		}
		if _, want := ledgerOf(list); impl.AreTerms(list) != want {
			t.Fatalf("AreTerms of %v is %t", list, !want)
		}
	}
}

// The promise P7: nobody serves twice on a day; so the days that all have served are the sum of
// those who serve, over all days, and a term on a day that is served is refused.
func TestNobodyServesTwiceOnADay(t *testing.T) {
	for name, list := range goodTerms() {
		served, serving := int64(0), int64(0)
		for _, number := range goodLedger(t, name, list).people() {
			days, _ := impl.DaysServed(list, number)
			served += days
		}
		for day := int64(0); day <= lastDay; day++ {
			numbers, code := impl.ServingOn(list, day)
			serving += int64(len(numbers))
			for i, number := range numbers {
				if i > 0 && number <= numbers[i-1] || code != impl.ErrNone {
					t.Fatalf("%s: ServingOn %d is %v, %d, which is not strictly increasing", name, day, numbers, code)
				}
				if got, code := impl.AddTerm(list, term(number, day, day)); len(got) != 0 || code != impl.ErrState {
					t.Fatalf("%s: %d serves on %d, but AddTerm is %v, %d", name, number, day, got, code)
				}
			}
		}
		if served != serving {
			t.Errorf("%s: all have served on %d days, but those who serve on a day are %d in all", name, served, serving)
		}
	}
	for name, pair := range sharedDays() {
		list, code := impl.AddTerm(nil, pair[0])
		if code != impl.ErrNone {
			t.Errorf("%s: AddTerm of the first one is %d", name, code)
		}
		if got, code := impl.AddTerm(list, pair[1]); len(got) != 0 || code != impl.ErrState {
			t.Errorf("%s: AddTerm of the second one is %v, %d, want ErrState", name, got, code)
		}
	}
}

// ends returns the least and the greatest of the numbers of those who serve.
func (l ledger) ends() []int64 {
	numbers := slices.Sorted(maps.Keys(l.serves))
	if len(numbers) == 0 {
		return nil
	}
	return slices.Compact([]int64{numbers[0], numbers[len(numbers)-1]})
}

// restedDays returns IsRested of a person for all days.
func restedDays(t *testing.T, what string, list []impl.Term, number int64) []bool {
	t.Helper()
	days := make([]bool, lastDay+1)
	for day := range days {
		is, code := impl.IsRested(list, number, int64(day))
		if code != impl.ErrNone {
			t.Fatalf("%s: IsRested of %d on %d is %t, %d", what, number, day, is, code)
		}
		days[day] = is
	}
	return days
}

// The promise P7: once rested a person stays so until they serve again. So a person who is rested
// on a day, but not on the next one, serves on the former; and nobody is rested behind a day of service.
func TestOnceRestedUntilServingAgain(t *testing.T) {
	for name, list := range goodTerms() {
		l := goodLedger(t, name, list)
		for _, number := range l.ends() {
			rested := restedDays(t, name, list, number)
			if !rested[0] {
				t.Errorf("%s: %d is not rested on the first day", name, number)
			}
			for day := 1; day <= lastDay; day++ {
				_, served := slices.BinarySearch(l.serves[number], int64(day-1))
				if rested[day-1] && !rested[day] && !served || served && rested[day] {
					t.Fatalf("%s: %d is rested on %d: %t, and on the next day: %t; served: %t", name, number, day-1, rested[day-1], rested[day], served)
				}
			}
		}
	}
}

// The day of RestedFrom is one of rest, and no day between is.
func TestRestedFromIsTheFirstDay(t *testing.T) {
	for name, list := range goodTerms() {
		for _, number := range goodLedger(t, name, list).ends() {
			rested := restedDays(t, name, list, number)
			for _, day := range daysAround(list) {
				want := int64(slices.Index(rested[day:], true))
				if want >= 0 {
					want += day
				}
				checkRestedFrom(t, name, list, number, day, want)
			}
		}
	}
}

// checkTermErrors checks that all functions return a code and zero values for a number and a day;
// those that take neither or not the wrong one of them are left out.
func checkTermErrors(t *testing.T, what string, list []impl.Term, number, day, want int64, wrongNumber, wrongDay bool) {
	t.Helper()
	if got, code := impl.DaysServed(list, number); wrongNumber && (got != 0 || code != want) {
		t.Errorf("%s: DaysServed by %d is %d, %d, want 0, %d", what, number, got, code, want)
	}
	if got, code := impl.IsRested(list, number, day); got || code != want {
		t.Errorf("%s: IsRested of %d on %d is %t, %d, want false, %d", what, number, day, got, code, want)
	}
	if got, code := impl.RestedFrom(list, number, day); got != 0 || code != want {
		t.Errorf("%s: RestedFrom of %d on %d is %d, %d, want 0, %d", what, number, day, got, code, want)
	}
	if got, code := impl.ServingOn(list, day); wrongDay && (len(got) != 0 || code != want) {
		t.Errorf("%s: ServingOn %d is %v, %d, want none, %d", what, day, got, code, want)
	}
}

func notNumbers() []int64 {
	return []int64{0, -1, 1000001, -1000000, math.MinInt64, math.MaxInt64}
}

func notDays() []int64 {
	return []int64{-1, 20001, -20000, 20002, 1000000, math.MinInt64, math.MinInt64 + 729, math.MaxInt64, math.MaxInt64 - 729}
}

func TestTermErrors(t *testing.T) {
	for name, list := range goodTerms() {
		for _, number := range notNumbers() {
			for _, day := range []int64{0, 100, 20000} {
				checkTermErrors(t, name, list, number, day, impl.ErrRange, true, false)
			}
			for _, day := range notDays() {
				checkTermErrors(t, name, list, number, day, impl.ErrRange, true, true)
			}
		}
		for _, day := range notDays() {
			for _, number := range []int64{1, 2, 1000000} {
				checkTermErrors(t, name, list, number, day, impl.ErrRange, false, true)
			}
		}
	}
}

func TestTermErrorOrder(t *testing.T) {
	for name, list := range badTerms() {
		for _, number := range append(notNumbers(), 1, 2, 5, 1000000) {
			for _, day := range append(notDays(), 0, 1005, 20000) {
				checkTermErrors(t, name, list, number, day, impl.ErrInvalid, true, true)
			}
		}
		if got, code := impl.OverServed(list); len(got) != 0 || code != impl.ErrInvalid {
			t.Errorf("%s: OverServed is %v, %d, want ErrInvalid", name, got, code)
		}
		if day, count, code := impl.BusiestDay(list); day != 0 || count != 0 || code != impl.ErrInvalid {
			t.Errorf("%s: BusiestDay is %d, %d, %d, want ErrInvalid", name, day, count, code)
		}
		for what, no := range noTerms() {
			if got, code := impl.AddTerm(list, no); len(got) != 0 || code != impl.ErrInvalid {
				t.Errorf("%s, %s: AddTerm is %v, %d, want ErrInvalid", name, what, got, code)
			}
		}
		for _, further := range []impl.Term{term(7, 3000, 3009), term(5, 4000, 4000)} {
			if got, code := impl.AddTerm(list, further); len(got) != 0 || code != impl.ErrInvalid {
				t.Errorf("%s: AddTerm of %v is %v, %d, want ErrInvalid", name, further, got, code)
			}
		}
	}
}

// spoilTerms overwrites a result up to its capacity.
func spoilTerms(list []impl.Term) {
	list = list[:cap(list)]
	for i := range list {
		list[i] = term(-7, -7, -7)
	}
}

// termsWithSpare returns a copy of a list with terms in the spare capacity behind it, and all of them.
func termsWithSpare(list []impl.Term) (part, whole []impl.Term) {
	whole = append(slices.Clone(list), term(11, 50, 59), impl.Term{}, term(12, 1, 2))
	return whole[:len(list)], whole
}

func TestResultsAreNew7(t *testing.T) {
	for name, list := range goodTerms() {
		part, whole := termsWithSpare(list)
		kept := slices.Clone(whole)
		one, code := impl.AddTerm(part, term(777, 5, 9))
		keptOne := slices.Clone(one)
		two, _ := impl.AddTerm(part, term(778, 5, 9))
		if len(list) < 20 && (code != impl.ErrNone || len(one) != len(list)+1 || len(two) != len(one)) {
			t.Fatalf("%s: AddTerm is %v, %d, and %v", name, one, code, two)
		}
		three, _ := impl.AddTerm(one, term(779, 5, 9))
		spoilTerms(two)
		spoilTerms(three)
		if !slices.Equal(one, keptOne) {
			t.Errorf("%s: results of two calls of AddTerm share memory: %v", name, one)
		}
		spoilTerms(one)
		over, _ := impl.OverServed(part)
		keptOver := slices.Clone(over)
		again, _ := impl.OverServed(part)
		spoil(again)
		if !slices.Equal(over, keptOver) {
			t.Errorf("%s: results of two calls of OverServed share memory", name)
		}
		day, _, _ := impl.BusiestDay(part)
		serving, _ := impl.ServingOn(part, day)
		keptServing := slices.Clone(serving)
		again, _ = impl.ServingOn(part, day)
		spoil(again)
		if !slices.Equal(serving, keptServing) {
			t.Errorf("%s: results of two calls of ServingOn share memory", name)
		}
		spoil(over)
		spoil(serving)
		if !slices.Equal(whole, kept) {
			t.Errorf("%s: a result shares memory with an argument: %v", name, whole)
		}
		checkTerms(t, name+", again", part, []int64{day})
	}
}

func TestArgumentsAreKept7(t *testing.T) {
	lists := goodTerms()
	for name, list := range badTerms() {
		lists["no terms: "+name] = list
	}
	for name, list := range lists {
		part, whole := termsWithSpare(list)
		kept := slices.Clone(whole)
		impl.AreTerms(part)
		for _, number := range append(notNumbers(), 1, 2, 5) {
			impl.AddTerm(part, term(number, 3000, 3009))
			impl.AddTerm(part, term(number, 0, 20000))
			impl.DaysServed(part, number)
			for _, day := range append(notDays(), 0, 105, 20000) {
				impl.IsRested(part, number, day)
				impl.RestedFrom(part, number, day)
				impl.ServingOn(part, day)
			}
		}
		impl.OverServed(part)
		impl.BusiestDay(part)
		if !slices.Equal(whole, kept) {
			t.Errorf("%s: an argument was changed: %v", name, whole)
		}
	}
}
