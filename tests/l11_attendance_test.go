package tests

import (
	"maps"
	"math"
	"math/rand/v2"
	"regexp"
	"slices"
	"strconv"
	"strings"
	"testing"

	"loop.example/g01027/impl"
)

// sheetOn returns the sheet of a day.
func sheetOn(day int64, present ...int64) impl.Sheet {
	return impl.Sheet{Day: day, Present: present}
}

func equalSheet(a, b impl.Sheet) bool {
	return a.Day == b.Day && slices.Equal(a.Present, b.Present)
}

func equalSheets(a, b []impl.Sheet) bool {
	return slices.EqualFunc(a, b, equalSheet)
}

func isZeroSheet(x impl.Sheet) bool {
	return equalSheet(x, impl.Sheet{})
}

// copiedSheets returns a list that shares no memory with the other one.
func copiedSheets(list []impl.Sheet) []impl.Sheet {
	copies := slices.Clone(list)
	for i, x := range list {
		copies[i].Present = slices.Clone(x.Present)
	}
	return copies
}

// sheetsOn returns sheets of some days on which the same persons are present.
func sheetsOn(days []int64, present ...int64) []impl.Sheet {
	var list []impl.Sheet
	for _, day := range days {
		list = append(list, sheetOn(day, slices.Clone(present)...))
	}
	return list
}

// mixedSheets returns count sheets on which persons with the numbers 1 to 40 are present, one after
// another on every second, every third sheet and so on.
func mixedSheets(count int) []impl.Sheet {
	var list []impl.Sheet
	for i := range int64(count) {
		var present []int64
		for number := int64(1); number <= 40; number++ {
			if i%(2+number%5) == number%3 {
				present = append(present, number)
			}
		}
		list = append(list, sheetOn(900+i*i, present...))
	}
	return list
}

// shiftedSheets returns count sheets of 60 persons each, of whom some are present on the next one.
func shiftedSheets(count int) []impl.Sheet {
	var list []impl.Sheet
	for i := range int64(count) {
		list = append(list, sheetOn(3*i, numbersUpTo(60, 1+i)...))
	}
	return list
}

// goodSheetSingles returns sheets, among them each value of a field at its limits.
func goodSheetSingles() map[string]impl.Sheet {
	return map[string]impl.Sheet{
		"nobody, nil": sheetOn(98), "nobody, empty": {Day: 98, Present: []int64{}}, "the zero value": {},
		"on day 0": sheetOn(0, 7), "on day 1": sheetOn(1, 7), "on the last day": sheetOn(20000, 7), "on the last day but 1": sheetOn(19999, 7), "nobody, on the last day": sheetOn(20000),
		"one": sheetOn(98, 7), "the least": sheetOn(98, 1), "the second": sheetOn(98, 2), "the greatest": sheetOn(98, 1000000), "the last but 1": sheetOn(98, 999999),
		"neighbours": sheetOn(98, 7, 8), "the ends": sheetOn(98, 1, 1000000), "three": sheetOn(98, 3, 7, 11), "equal to days": sheetOn(98, 97, 98, 99),
		"19": sheetOn(98, numbersUpTo(19, 2)...), "20": sheetOn(98, numbersUpTo(20, 2)...), "21": sheetOn(98, numbersUpTo(21, 2)...),
		"59": sheetOn(98, numbersUpTo(59, 1)...), "60": sheetOn(98, numbersUpTo(60, 1)...), "60 apart": sheetOn(98, numbersUpTo(60, 3)...), "60 far apart": sheetOn(98, numbersUpTo(60, 16949)...), "60 up to the greatest": sheetOn(98, everyDay(999941, 1, 60)...),
	}
}

// withOneSheet returns a list in which a sheet stands between others, or at the end where its day is.
func withOneSheet(one impl.Sheet) []impl.Sheet {
	list := []impl.Sheet{sheetOn(50, 5, 7), sheetOn(97, 1, 7, 1000000), one, sheetOn(105), sheetOn(200, 7)}
	slices.SortFunc(list, func(a, b impl.Sheet) int { return int(a.Day - b.Day) })
	return list
}

// goodSheets returns lists of sheets.
func goodSheets() map[string][]impl.Sheet {
	lists := map[string][]impl.Sheet{
		"nil": nil, "none": {},
		"days in a row":       {sheetOn(98, 7), sheetOn(99, 7), sheetOn(100, 7)},
		"the ends":            {sheetOn(0, 1), sheetOn(20000, 1000000)},
		"always another":      {sheetOn(98, 9), sheetOn(99, 8), sheetOn(100, 7)},
		"one ever more often": {sheetOn(98, 3), sheetOn(99, 3, 9), sheetOn(100, 3, 9, 12), sheetOn(101, 9, 12), sheetOn(102, 9)},
		"runs":                {sheetOn(91, 5), sheetOn(92), sheetOn(95, 5), sheetOn(96, 5, 6), sheetOn(98, 6), sheetOn(99, 5), sheetOn(103, 5), sheetOn(104, 5), sheetOn(105, 6)},
		"nobody in between":   {sheetOn(98, 7), sheetOn(99), sheetOn(100, 7)},
		"nobody on any":       sheetsOn(everyDay(98, 1, 7)),
		"nobody on all 15":    sheetsOn(everyDay(98, 1, 15)),

		"14":                      sheetsOn(everyDay(98, 1, 14), 7),
		"15":                      sheetsOn(everyDay(98, 1, 15), 7),
		"15, far apart":           sheetsOn(everyDay(0, 1428, 15), 3, 7),
		"15 from day 0":           sheetsOn(everyDay(0, 1, 15), 1),
		"15 up to the last day":   sheetsOn(everyDay(19986, 1, 15), 1000000),
		"14, mixed":               mixedSheets(14),
		"15, mixed":               mixedSheets(15),
		"14, full":                shiftedSheets(14),
		"15, full":                shiftedSheets(15),
		"15, full, with the same": sheetsOn(everyDay(98, 2, 15), numbersUpTo(60, 2)...),
		"15, full but one each":   sheetsOn(everyDay(98, 2, 15), numbersUpTo(59, 2)...),
	}
	for name, one := range goodSheetSingles() {
		lists["one, "+name] = []impl.Sheet{one}
		if one.Day != 50 && one.Day != 105 {
			lists["several, "+name] = withOneSheet(one)
		}
	}
	return lists
}

// noSheetSingles returns what is no sheet for one fault.
func noSheetSingles() map[string]impl.Sheet {
	none := map[string]impl.Sheet{
		"on -1": sheetOn(-1, 7), "on 20001": sheetOn(20001, 7), "nobody on -1": sheetOn(-1), "nobody on 20001": sheetOn(20001),
		"on the least day": sheetOn(math.MinInt64, 7), "on the greatest day": sheetOn(math.MaxInt64, 7), "on a day that wraps": sheetOn(1<<32+98, 7),
	}
	for name, list := range noNumberLists() {
		none["present "+name] = sheetOn(98, list...)
	}
	return none
}

// badSheets returns lists that are no sheets, for one fault each.
func badSheets() map[string][]impl.Sheet {
	lists := map[string][]impl.Sheet{
		"16": sheetsOn(everyDay(98, 1, 16), 7), "16, nobody": sheetsOn(everyDay(0, 1, 16)), "16, mixed": mixedSheets(16), "1000": sheetsOn(everyDay(0, 1, 1000), 7),
		"twice the same": sheetsOn([]int64{98, 98}, 7), "16 zero values": repeated(16, impl.Sheet{}), "two zero values": repeated(2, impl.Sheet{}), "the same day, others": {sheetOn(98, 7), sheetOn(98, 8)},
		"equal first two": sheetsOn([]int64{98, 98, 99}, 7), "equal last two": sheetsOn([]int64{97, 98, 98}, 7), "equal in the middle": sheetsOn([]int64{97, 98, 98, 99}, 7), "the first again": sheetsOn([]int64{97, 98, 97}, 7),
		"falling by 1": sheetsOn([]int64{99, 98}, 7), "falling": sheetsOn([]int64{300, 200, 100}, 7), "falling at the front": sheetsOn([]int64{98, 97, 99}, 7), "falling at the end": sheetsOn([]int64{97, 99, 98}, 7), "the last day first": sheetsOn([]int64{20000, 0}, 7),
		"15, equal last two": sheetsOn(append(everyDay(0, 5, 14), 65), 7), "15, equal first two": sheetsOn(append([]int64{0}, everyDay(0, 5, 14)...), 7), "15, falling last two": sheetsOn(append(everyDay(0, 5, 14), 64), 7),
	}
	for name, no := range noSheetSingles() {
		lists["one, "+name] = []impl.Sheet{no}
		switch {
		case no.Day == 98:
			lists["inside, "+name] = []impl.Sheet{sheetOn(97, 7), no, sheetOn(99, 7)}
			lists["the first of 15, "+name] = append([]impl.Sheet{no}, sheetsOn(everyDay(99, 1, 14), 7)...)
			lists["the last of 15, "+name] = append(sheetsOn(everyDay(84, 1, 14), 7), no)
		case no.Day < 0:
			lists["in front, "+name] = []impl.Sheet{no, sheetOn(97, 7), sheetOn(99, 7)}
		default:
			lists["behind, "+name] = []impl.Sheet{sheetOn(97, 7), sheetOn(99, 7), no}
		}
	}
	return lists
}

// register tells who was present, for each day with a sheet.
type register map[int64]map[int64]bool

func registerOf(list []impl.Sheet) register {
	r := register{}
	for _, x := range list {
		r[x.Day] = map[int64]bool{}
		for _, number := range x.Present {
			r[x.Day][number] = true
		}
	}
	return r
}

// sheets returns the sheets of all days.
func (r register) sheets() []impl.Sheet {
	var list []impl.Sheet
	for _, day := range slices.Sorted(maps.Keys(r)) {
		list = append(list, sheetOn(day, slices.Sorted(maps.Keys(r[day]))...))
	}
	return list
}

// daysOf returns the days on which a person was present.
func (r register) daysOf(number int64) []int64 {
	var days []int64
	for day, present := range r {
		if present[number] {
			days = append(days, day)
		}
	}
	slices.Sort(days)
	return days
}

// run returns the length of the longest row of days with a sheet on which a person was present.
func (r register) run(number int64) int64 {
	marks := ""
	for _, day := range slices.Sorted(maps.Keys(r)) {
		if r[day][number] {
			marks += "x"
		} else {
			marks += " "
		}
	}
	longest := 0
	for _, row := range strings.Fields(marks) {
		longest = max(longest, len(row))
	}
	return int64(longest)
}

// most returns who was present on the most days, and on how many.
func (r register) most() (who, most int64) {
	counts := map[int64]int64{}
	for _, present := range r {
		for number := range present {
			counts[number]++
		}
	}
	for number, count := range counts {
		if count > most || count == most && number < who {
			who, most = number, count
		}
	}
	return who, most
}

// absent returns all who were called for a day and are not present.
func (r register) absent(calls []impl.Call, day int64) []int64 {
	var numbers []int64
	for _, number := range agendaOf(calls)[day] {
		if !r[day][number] {
			numbers = append(numbers, number)
		}
	}
	slices.Sort(numbers)
	return numbers
}

// uncalled returns all who are present on a day and were not called for it.
func (r register) uncalled(calls []impl.Call, day int64) []int64 {
	var numbers []int64
	for number := range r[day] {
		if !slices.Contains(agendaOf(calls)[day], number) {
			numbers = append(numbers, number)
		}
	}
	slices.Sort(numbers)
	return numbers
}

// areRightSheets is an independent check of a list: written anew from its register it is the same.
func areRightSheets(list []impl.Sheet) bool {
	r := registerOf(list)
	for day, present := range r {
		if day < 0 || day > lastDay || len(present) > 60 {
			return false
		}
		for number := range present {
			if number < 1 || number > 1000000 {
				return false
			}
		}
	}
	return len(list) <= 15 && equalSheets(r.sheets(), list)
}

// refMark returns what MarkPresent should, for sheets that are as described.
func refMark(list []impl.Sheet, day, number int64) ([]impl.Sheet, int64) {
	if day < 0 || day > lastDay || number < 1 || number > 1000000 {
		return nil, impl.ErrRange
	}
	r := registerOf(list)
	if r[day] == nil {
		r[day] = map[int64]bool{}
	}
	if r[day][number] {
		return nil, impl.ErrState
	}
	r[day][number] = true
	if len(r) > 15 || len(r[day]) > 60 {
		return nil, impl.ErrLimit
	}
	return r.sheets(), impl.ErrNone
}

// dayCode returns the code of what is asked of a day with a sheet.
func (r register) dayCode(day int64) int64 {
	switch {
	case day < 0 || day > lastDay:
		return impl.ErrRange
	case r[day] == nil:
		return impl.ErrNotFound
	}
	return impl.ErrNone
}

func checkMark(t *testing.T, what string, list []impl.Sheet, day, number int64) []impl.Sheet {
	t.Helper()
	want, wantCode := refMark(list, day, number)
	got, code := impl.MarkPresent(list, day, number)
	if !equalSheets(got, want) || code != wantCode {
		t.Errorf("%s: MarkPresent of %d on %d is %v, %d, want %v, %d", what, number, day, got, code, want, wantCode)
	}
	return got
}

func checkDaysPresent(t *testing.T, what string, list []impl.Sheet, number int64, want []int64) {
	t.Helper()
	if got, code := impl.DaysPresent(list, number); !slices.Equal(got, want) || code != impl.ErrNone {
		t.Errorf("%s: DaysPresent of %d is %v, %d, want %v", what, number, got, code, want)
	}
}

func checkRun(t *testing.T, what string, list []impl.Sheet, number, want int64) {
	t.Helper()
	if got, code := impl.LongestRun(list, number); got != want || code != impl.ErrNone {
		t.Errorf("%s: LongestRun of %d in %v is %d, %d, want %d", what, number, list, got, code, want)
	}
}

// checkMost checks MostPresent; nobody was present if days is 0.
func checkMost(t *testing.T, what string, list []impl.Sheet, number, days int64) {
	t.Helper()
	wantCode := int64(impl.ErrNone)
	if days == 0 {
		wantCode = impl.ErrNotFound
	}
	if who, count, code := impl.MostPresent(list); who != number || count != days || code != wantCode {
		t.Errorf("%s: MostPresent of %v is %d, %d, %d, want %d, %d, %d", what, list, who, count, code, number, days, wantCode)
	}
}

func checkAbsent(t *testing.T, what string, list []impl.Sheet, calls []impl.Call, day int64, want []int64, wantCode int64) {
	t.Helper()
	if got, code := impl.AbsentOn(list, calls, day); !slices.Equal(got, want) || code != wantCode {
		t.Errorf("%s: AbsentOn %d with %v is %v, %d, want %v, %d", what, day, calls, got, code, want, wantCode)
	}
}

func checkUncalled(t *testing.T, what string, list []impl.Sheet, calls []impl.Call, day int64, want []int64, wantCode int64) {
	t.Helper()
	if got, code := impl.UncalledOn(list, calls, day); !slices.Equal(got, want) || code != wantCode {
		t.Errorf("%s: UncalledOn %d with %v is %v, %d, want %v, %d", what, day, calls, got, code, want, wantCode)
	}
}

// callsTo returns calls of at most 20 persons for a day.
func callsTo(numbers []int64, day int64) []impl.Call {
	var calls []impl.Call
	for _, number := range numbers[:min(len(numbers), 20)] {
		calls = append(calls, callFor(number, day))
	}
	return calls
}

// callsAround returns lists of calls for the day of a sheet and for those beside it.
func callsAround(x impl.Sheet) map[string][]impl.Call {
	beside := slices.DeleteFunc(numbersBeside(x.Present), func(n int64) bool { return n < 1 || n > 1000000 })
	others := slices.DeleteFunc(slices.Clone(beside), func(n int64) bool { return slices.Contains(x.Present, n) })
	lists := map[string][]impl.Call{
		"nil": nil, "none": {}, "mixed calls": mixedCalls(20),
		"all called present": callsTo(x.Present, x.Day), "nobody called present": callsTo(others, x.Day), "present and others": callsTo(beside, x.Day),
		"the last ones": callsTo(beside[max(0, len(beside)-20):], x.Day), "only the first": callsTo(beside[:1], x.Day), "only the greatest": callsTo([]int64{1000000}, x.Day),
	}
	if x.Day > 0 {
		lists["for the day before"] = callsTo(x.Present, x.Day-1)
		moved := callsTo(beside, x.Day)
		for i := range moved {
			if i%3 > 0 {
				moved[i] = movedCall(moved[i].Number, x.Day-1, x.Day, int64(i%3))
			}
		}
		lists["moved to the day"] = moved
	}
	if x.Day < lastDay {
		lists["for the day behind"] = callsTo(x.Present, x.Day+1)
		moved := callsTo(beside, x.Day)
		for i := range moved {
			if i%3 > 0 {
				moved[i] = movedCall(moved[i].Number, x.Day, x.Day+1, int64(i%3))
			}
		}
		lists["moved from the day"] = moved
	}
	return lists
}

// numbersOnSheets returns numbers of persons on sheets, those beside them, and the ends.
func numbersOnSheets(list []impl.Sheet) []int64 {
	var numbers []int64
	for _, x := range list {
		for i, number := range x.Present {
			// Of long sheets those at both ends and some in between are enough.
			if i < 3 || i%16 == 0 || i > len(x.Present)-3 {
				numbers = append(numbers, number)
			}
		}
	}
	return numbersBeside(numbers)
}

// daysOfSheets returns the days of sheets, those beside them, and the ends.
func daysOfSheets(list []impl.Sheet) []int64 {
	var days []int64
	for _, x := range list {
		days = append(days, x.Day)
	}
	return daysBeside(days)
}

// checkWithCalls checks AbsentOn and UncalledOn for some days.
func checkWithCalls(t *testing.T, what string, list []impl.Sheet, calls []impl.Call, days []int64) {
	t.Helper()
	r := registerOf(list)
	for _, day := range days {
		absent, uncalled := r.absent(calls, day), r.uncalled(calls, day)
		code := r.dayCode(day)
		if code != impl.ErrNone {
			absent, uncalled = nil, nil
		}
		checkAbsent(t, what, list, calls, day, absent, code)
		checkUncalled(t, what, list, calls, day, uncalled, code)
	}
}

// checkSheets checks all functions that need no calls, for some numbers and days.
func checkSheets(t *testing.T, what string, list []impl.Sheet, numbers, days []int64) {
	t.Helper()
	if !areRightSheets(list) || !impl.AreSheets(list) {
		t.Fatalf("%s: AreSheets of %v is %t, want %t", what, list, impl.AreSheets(list), areRightSheets(list))
	}
	r := registerOf(list)
	for _, number := range numbers {
		checkDaysPresent(t, what, list, number, r.daysOf(number))
		checkRun(t, what, list, number, r.run(number))
		for _, day := range days {
			checkMark(t, what, list, day, number)
		}
	}
	who, most := r.most()
	checkMost(t, what, list, who, most)
}

func TestConstants11(t *testing.T) {
	if impl.MaxSheets != 15 {
		t.Errorf("MaxSheets is %d, want 15", impl.MaxSheets)
	}
}

func TestAreSheets(t *testing.T) {
	checkWhichAre(t, "AreSheets", impl.AreSheets, areRightSheets, goodSheets(), badSheets())
}

// All lists of up to two sheets with small numbers, and all of up to four with nobody on them.
func TestAreSheetsOfAllSmallSheets(t *testing.T) {
	presents := listsOver(0, 3, 3)
	right := 0
	check := func(list []impl.Sheet) {
		want := areRightSheets(list)
		if got := impl.AreSheets(list); got != want {
			t.Fatalf("AreSheets of %v is %t", list, got)
		}
		if want {
			right++
		}
	}
	for _, first := range presents {
		check([]impl.Sheet{sheetOn(98, first...)})
		for _, second := range presents {
			for day := int64(97); day <= 99; day++ {
				check([]impl.Sheet{sheetOn(98, first...), sheetOn(day, second...)})
			}
		}
	}
	for _, days := range listsOver(-1, 3, 4) {
		check(sheetsOn(days))
	}
	// 8 sets of the numbers 1 to 3, alone and each with each on a later day; 16 sets of the days 0 to 3.
	if right != 8+8*8+16 {
		t.Errorf("%d lists are right", right)
	}
}

// All sheets with a day and one or two numbers that are at their limits, one before or one behind.
func TestAreSheetsAtTheLimits(t *testing.T) {
	right := 0
	numbers := []int64{-1, 0, 1, 2, 999999, 1000000, 1000001}
	for _, day := range []int64{-1, 0, 1, 19999, 20000, 20001} {
		for _, a := range numbers {
			for _, b := range numbers {
				for _, list := range [][]impl.Sheet{{sheetOn(day, a)}, {sheetOn(day, a, b)}} {
					want := areRightSheets(list)
					if got := impl.AreSheets(list); got != want {
						t.Fatalf("AreSheets of %v is %t", list, got)
					}
					if want {
						right++
					}
				}
			}
		}
	}
	// For each of 4 days: 4 numbers alone, each tried 7 times, and 6 pairs of them.
	if right != 4*(4*7+6) {
		t.Errorf("%d sheets are right", right)
	}
}

func TestMarkPresent(t *testing.T) {
	some := []impl.Sheet{sheetOn(98, 3, 7, 11), sheetOn(105), sheetOn(112, 7)}
	first, second, third := some[0], some[1], some[2]
	days := everyDay(98, 1, 15)
	full := sheetsOn(days, numbersUpTo(60, 2)...)
	roomy := sheetsOn(days, numbersUpTo(59, 2)...)
	cases := []struct {
		name        string
		list        []impl.Sheet
		day, number int64
		want        []impl.Sheet
		code        int64
	}{
		{"to nil", nil, 98, 7, []impl.Sheet{sheetOn(98, 7)}, impl.ErrNone},
		{"to none", []impl.Sheet{}, 98, 7, []impl.Sheet{sheetOn(98, 7)}, impl.ErrNone},
		{"on day 0", nil, 0, 7, []impl.Sheet{sheetOn(0, 7)}, impl.ErrNone},
		{"on the last day", nil, 20000, 7, []impl.Sheet{sheetOn(20000, 7)}, impl.ErrNone},
		{"on a Saturday", nil, 103, 7, []impl.Sheet{sheetOn(103, 7)}, impl.ErrNone},
		{"the least number", nil, 98, 1, []impl.Sheet{sheetOn(98, 1)}, impl.ErrNone},
		{"the greatest number", nil, 98, 1000000, []impl.Sheet{sheetOn(98, 1000000)}, impl.ErrNone},

		{"ahead of those present", some, 98, 2, []impl.Sheet{sheetOn(98, 2, 3, 7, 11), second, third}, impl.ErrNone},
		{"behind the first one", some, 98, 4, []impl.Sheet{sheetOn(98, 3, 4, 7, 11), second, third}, impl.ErrNone},
		{"before the last one", some, 98, 10, []impl.Sheet{sheetOn(98, 3, 7, 10, 11), second, third}, impl.ErrNone},
		{"behind those present", some, 98, 12, []impl.Sheet{sheetOn(98, 3, 7, 11, 12), second, third}, impl.ErrNone},
		{"on a sheet with nobody", some, 105, 7, []impl.Sheet{first, sheetOn(105, 7), third}, impl.ErrNone},
		{"on the last sheet, in front", some, 112, 1, []impl.Sheet{first, second, sheetOn(112, 1, 7)}, impl.ErrNone},
		{"on the last sheet, behind", some, 112, 1000000, []impl.Sheet{first, second, sheetOn(112, 7, 1000000)}, impl.ErrNone},

		{"a sheet ahead of all", some, 97, 7, []impl.Sheet{sheetOn(97, 7), first, second, third}, impl.ErrNone},
		{"a sheet on day 0", some, 0, 8, []impl.Sheet{sheetOn(0, 8), first, second, third}, impl.ErrNone},
		{"a sheet behind the first", some, 99, 3, []impl.Sheet{first, sheetOn(99, 3), second, third}, impl.ErrNone},
		{"a sheet before the last", some, 111, 7, []impl.Sheet{first, second, sheetOn(111, 7), third}, impl.ErrNone},
		{"a sheet behind all", some, 113, 7, []impl.Sheet{first, second, third, sheetOn(113, 7)}, impl.ErrNone},
		{"a sheet on the last day", some, 20000, 7, []impl.Sheet{first, second, third, sheetOn(20000, 7)}, impl.ErrNone},

		{"the 15th sheet", full[:14], 112, 7, append(full[:14:14], sheetOn(112, 7)), impl.ErrNone},
		{"the 15th sheet, in front", full[1:], 97, 7, append([]impl.Sheet{sheetOn(97, 7)}, full[1:]...), impl.ErrNone},
		{"the 60th number", roomy, 98, 119, append([]impl.Sheet{full[0]}, roomy[1:]...), impl.ErrNone},
		{"the 60th number on the last of 15", roomy, 112, 119, append(roomy[:14:14], full[14]), impl.ErrNone},
		{"the 60th number, in front", []impl.Sheet{sheetOn(98, numbersUpTo(60, 2)[1:]...)}, 98, 1, full[:1], impl.ErrNone},

		{"number 0", some, 98, 0, nil, impl.ErrRange},
		{"number 1000001", some, 98, 1000001, nil, impl.ErrRange},
		{"number -1 on a new sheet", some, 99, -1, nil, impl.ErrRange},
		{"on day -1", some, -1, 7, nil, impl.ErrRange},
		{"on day 20001", some, 20001, 7, nil, impl.ErrRange},
		{"number 0 on day -1", some, -1, 0, nil, impl.ErrRange},
		{"number 0 on a full sheet", full, 98, 0, nil, impl.ErrRange},
		{"number 1000001 on a 16th sheet", full, 97, 1000001, nil, impl.ErrRange},
		{"on day 20001, a 16th sheet", full, 20001, 7, nil, impl.ErrRange},

		{"the first once more", some, 98, 3, nil, impl.ErrState},
		{"the second once more", some, 98, 7, nil, impl.ErrState},
		{"the last once more", some, 98, 11, nil, impl.ErrState},
		{"the only one once more", some, 112, 7, nil, impl.ErrState},
		{"the first of 60 once more", full, 98, 1, nil, impl.ErrState},
		{"the last of 60 once more", full, 112, 119, nil, impl.ErrState},
		{"one of 60 on the only sheet once more", full[:1], 98, 59, nil, impl.ErrState},

		{"the 61st number", full[:1], 98, 2, nil, impl.ErrLimit},
		{"the 61st number, behind", full[:1], 98, 120, nil, impl.ErrLimit},
		{"the 61st number on one of 15", full, 105, 2, nil, impl.ErrLimit},
		{"the 16th sheet", full, 113, 7, nil, impl.ErrLimit},
		{"the 16th sheet, in front", full, 97, 7, nil, impl.ErrLimit},
		{"the 16th sheet, nobody on the others", sheetsOn(days), 0, 7, nil, impl.ErrLimit},
		{"the 16th sheet, in between", sheetsOn(everyDay(98, 2, 15)), 99, 7, nil, impl.ErrLimit},
	}
	for _, c := range cases {
		if got, code := impl.MarkPresent(c.list, c.day, c.number); !equalSheets(got, c.want) || code != c.code {
			t.Errorf("%s: MarkPresent is %v, %d, want %v, %d", c.name, got, code, c.want, c.code)
		}
	}
}

func TestDaysPresent(t *testing.T) {
	list := []impl.Sheet{sheetOn(0, 1, 7), sheetOn(98, 3, 7, 11), sheetOn(99), sheetOn(103, 11), sheetOn(112, 7, 12), sheetOn(20000, 7, 1000000)}
	for _, c := range []struct {
		number int64
		want   []int64
	}{
		{7, []int64{0, 98, 112, 20000}}, {11, []int64{98, 103}}, {3, []int64{98}}, {12, []int64{112}}, {1, []int64{0}}, {1000000, []int64{20000}},
		{2, nil}, {4, nil}, {8, nil}, {13, nil}, {999999, nil}, {98, nil}, {0, nil}, {-1, nil}, {-7, nil}, {1000001, nil}, {math.MinInt64, nil}, {math.MaxInt64, nil}, {1<<32 + 7, nil},
	} {
		checkDaysPresent(t, "several", list, c.number, c.want)
		checkDaysPresent(t, "nil", nil, c.number, nil)
		checkDaysPresent(t, "none", []impl.Sheet{}, c.number, nil)
		checkDaysPresent(t, "nobody", sheetsOn(everyDay(98, 1, 15)), c.number, nil)
	}
	checkDaysPresent(t, "on all", sheetsOn(everyDay(98, 1, 15), 7), 7, everyDay(98, 1, 15))
	checkDaysPresent(t, "beside one who is on all", sheetsOn(everyDay(98, 1, 15), 7), 8, nil)
}

func TestAbsentAndUncalled(t *testing.T) {
	list := []impl.Sheet{sheetOn(98, 3, 7, 11), sheetOn(105, 7), sheetOn(106), sheetOn(112, 5)}
	calls := []impl.Call{callFor(2, 98), callFor(3, 98), callFor(5, 105), movedCall(7, 98, 105, 1), movedCall(8, 91, 98, 2), callFor(11, 99), callFor(12, 106), callFor(1000000, 98)}
	cases := []struct {
		name             string
		calls            []impl.Call
		day              int64
		absent, uncalled []int64
		code             int64
	}{
		{"some", calls, 98, []int64{2, 8, 1000000}, []int64{7, 11}, impl.ErrNone},
		{"one, and one moved to the day", calls, 105, []int64{5}, nil, impl.ErrNone},
		{"nobody present", calls, 106, []int64{12}, nil, impl.ErrNone},
		{"nobody called", calls, 112, nil, []int64{5}, impl.ErrNone},
		{"no calls", nil, 98, nil, []int64{3, 7, 11}, impl.ErrNone},
		{"no calls, and nobody present", nil, 106, nil, nil, impl.ErrNone},
		{"empty calls", []impl.Call{}, 105, nil, []int64{7}, impl.ErrNone},
		{"calls for other days", callsTo([]int64{3, 7}, 97), 98, nil, []int64{3, 7, 11}, impl.ErrNone},
		{"calls moved away", []impl.Call{movedCall(2, 98, 99, 1), movedCall(3, 98, 105, 2)}, 98, nil, []int64{3, 7, 11}, impl.ErrNone},
		{"everybody called present", callsTo([]int64{3, 7, 11}, 98), 98, nil, nil, impl.ErrNone},
		{"nobody called present", callsTo([]int64{2, 4, 6, 8, 10, 12}, 98), 98, []int64{2, 4, 6, 8, 10, 12}, []int64{3, 7, 11}, impl.ErrNone},
		{"20 called, nobody present", callsTo(numbersUpTo(20, 3), 106), 106, numbersUpTo(20, 3), nil, impl.ErrNone},
		{"20 called, two present", callsTo(numbersUpTo(20, 1), 98), 98, []int64{1, 2, 4, 5, 6, 8, 9, 10, 12, 13, 14, 15, 16, 17, 18, 19, 20}, nil, impl.ErrNone},
		{"a day without a sheet", calls, 99, nil, nil, impl.ErrNotFound},
		{"a day ahead of all sheets", calls, 0, nil, nil, impl.ErrNotFound},
		{"a day behind all sheets", calls, 20000, nil, nil, impl.ErrNotFound},
		{"a day without a sheet, no calls", nil, 111, nil, nil, impl.ErrNotFound},
		{"day -1", calls, -1, nil, nil, impl.ErrRange},
		{"day 20001", calls, 20001, nil, nil, impl.ErrRange},
	}
	for _, c := range cases {
		checkAbsent(t, c.name, list, c.calls, c.day, c.absent, c.code)
		checkUncalled(t, c.name, list, c.calls, c.day, c.uncalled, c.code)
	}
	for _, none := range [][]impl.Sheet{nil, {}} {
		checkAbsent(t, "no sheets", none, calls, 98, nil, impl.ErrNotFound)
		checkUncalled(t, "no sheets", none, calls, 98, nil, impl.ErrNotFound)
	}
	full := []impl.Sheet{sheetOn(98, numbersUpTo(60, 2)...)}
	checkUncalled(t, "60 present, nobody called", full, nil, 98, numbersUpTo(60, 2), impl.ErrNone)
	checkUncalled(t, "60 present, 20 called", full, callsTo(numbersUpTo(20, 2), 98), 98, numbersUpTo(60, 2)[20:], impl.ErrNone)
	checkAbsent(t, "60 present, 20 others called", full, callsTo(everyDay(2, 2, 20), 98), 98, everyDay(2, 2, 20), impl.ErrNone)
}

func TestLongestRun(t *testing.T) {
	list := []impl.Sheet{sheetOn(0, 1, 7), sheetOn(98, 1, 5, 7), sheetOn(99, 5, 8), sheetOn(103, 1, 7), sheetOn(112, 1, 7), sheetOn(200, 1, 7, 9), sheetOn(300, 9), sheetOn(500, 7, 9), sheetOn(20000, 7, 9)}
	for number, want := range map[int64]int64{7: 3, 1: 3, 5: 2, 8: 1, 9: 4, 2: 0, 6: 0, 10: 0, 1000000: 0, 0: 0, -1: 0, 1000001: 0, math.MinInt64: 0, math.MaxInt64: 0, 98: 0} {
		checkRun(t, "several", list, number, want)
		checkRun(t, "nil", nil, number, 0)
		checkRun(t, "none", []impl.Sheet{}, number, 0)
		checkRun(t, "nobody", sheetsOn(everyDay(98, 1, 15)), number, 0)
	}
	for count := range 16 {
		checkRun(t, "on all", sheetsOn(everyDay(98, 7, count), 3, 7), 7, int64(count))
		checkRun(t, "on none", sheetsOn(everyDay(98, 7, count), 3, 7), 5, 0)
	}
}

// All rows of up to eight sheets on which 5 is present or not, while others are, too.
func TestLongestRunOfAllRows(t *testing.T) {
	for count := range 9 {
		for marks := range 1 << count {
			list := sheetsOn(everyDay(98, 2, count))
			for i := range list {
				switch marks >> i & 1 {
				case 0:
					list[i].Present = []int64{3, 9}
				case 1:
					list[i].Present = []int64{2, 5, 9}
				}
			}
			r := registerOf(list)
			for _, number := range []int64{2, 3, 5, 9} {
				checkRun(t, "a row", list, number, r.run(number))
			}
		}
	}
}

func TestMostPresent(t *testing.T) {
	for _, c := range []struct {
		name         string
		list         []impl.Sheet
		number, days int64
	}{
		{"nil", nil, 0, 0}, {"none", []impl.Sheet{}, 0, 0}, {"nobody on one", sheetsOn([]int64{98}), 0, 0}, {"nobody on 15", sheetsOn(everyDay(98, 1, 15)), 0, 0},
		{"one", []impl.Sheet{sheetOn(98, 7)}, 7, 1},
		{"several on one", []impl.Sheet{sheetOn(98, 3, 7, 11)}, 3, 1},
		{"falling from day to day", []impl.Sheet{sheetOn(98, 9), sheetOn(99, 8), sheetOn(100, 7)}, 7, 1},
		{"rising from day to day", []impl.Sheet{sheetOn(98, 7), sheetOn(99, 8), sheetOn(100, 9)}, 7, 1},
		{"the greatest twice", []impl.Sheet{sheetOn(98, 1, 1000000), sheetOn(99, 2, 1000000)}, 1000000, 2},
		{"the middle one twice", []impl.Sheet{sheetOn(98, 3, 7), sheetOn(99, 7, 11), sheetOn(100)}, 7, 2},
		{"two share the most", []impl.Sheet{sheetOn(98, 3, 7, 11), sheetOn(99, 11), sheetOn(100, 7)}, 7, 2},
		{"two share the most, the other one first", []impl.Sheet{sheetOn(98, 11), sheetOn(99, 3, 7, 11), sheetOn(100, 7)}, 7, 2},
		{"apart", []impl.Sheet{sheetOn(98, 9), sheetOn(99, 3), sheetOn(100, 3), sheetOn(101, 9), sheetOn(102, 9)}, 9, 3},
		{"nobody in between", []impl.Sheet{sheetOn(98), sheetOn(99, 9), sheetOn(100), sheetOn(101, 9), sheetOn(102, 3)}, 9, 2},
		{"15 with all", sheetsOn(everyDay(98, 1, 15), numbersUpTo(60, 2)...), 1, 15},
		{"15 with one", sheetsOn(everyDay(98, 1, 15), 1000000), 1000000, 15},
	} {
		checkMost(t, c.name, c.list, c.number, c.days)
	}
}

// All ways in which three persons can be present on four days.
func TestMostPresentOfAllSheets(t *testing.T) {
	sets := [][]int64{nil, {4}, {6}, {9}, {4, 6}, {4, 9}, {6, 9}, {4, 6, 9}}
	for _, days := range listsOver(0, 7, 4) {
		var list []impl.Sheet
		for i, set := range days {
			list = append(list, sheetOn(98+int64(i), sets[set]...))
		}
		who, most := registerOf(list).most()
		checkMost(t, "three", list, who, most)
	}
}

func TestSheetsOfAllLists(t *testing.T) {
	for name, list := range goodSheets() {
		days := append(notDays(), daysOfSheets(list)...)
		checkSheets(t, name, list, numbersOnSheets(list), days)
		for _, x := range append(list, sheetOn(98, 7)) {
			for what, calls := range callsAround(x) {
				checkWithCalls(t, name+", "+what, list, calls, append(notDays(), daysBeside([]int64{x.Day})...))
			}
		}
	}
}

// plainSheetText writes what is in a sheet, whether it is one or not.
func plainSheetText(x impl.Sheet) string {
	parts := []string{}
	for _, number := range x.Present {
		parts = append(parts, strconv.FormatInt(number, 10))
	}
	if len(parts) == 0 {
		parts = []string{"-"}
	}
	return strconv.FormatInt(x.Day, 10) + "=" + strings.Join(parts, ",")
}

func sheetTexts() textFunctions[impl.Sheet] {
	return textFunctions[impl.Sheet]{impl.SheetText, impl.ReadSheet, equalSheet}
}

func TestSheetText(t *testing.T) {
	cases := []struct {
		text string
		x    impl.Sheet
	}{
		{"0=-", impl.Sheet{}}, {"0=-", sheetOn(0)}, {"98=-", sheetOn(98)}, {"98=-", impl.Sheet{Day: 98, Present: []int64{}}}, {"20000=-", sheetOn(20000)},
		{"98=7", sheetOn(98, 7)}, {"7=98", sheetOn(7, 98)}, {"98=3,7", sheetOn(98, 3, 7)}, {"98=3,7,11", sheetOn(98, 3, 7, 11)}, {"10=9,10,100", sheetOn(10, 9, 10, 100)},
		{"20000=1,1000000", sheetOn(20000, 1, 1000000)}, {"0=1000000", sheetOn(0, 1000000)}, {"19999=999999", sheetOn(19999, 999999)},
	}
	for _, c := range cases {
		sheetTexts().check(t, "a case", c.x, c.text)
	}
	for name, x := range noSheetSingles() {
		if text, code := impl.SheetText(x); text != "" || code != impl.ErrInvalid {
			t.Errorf("%s: SheetText is %q, %d, want ErrInvalid", name, text, code)
		}
	}
}

// The promise P1 for sheets: a sheet is recovered from its text, and nothing else is read.
func TestSheetsAreRecovered(t *testing.T) {
	texts := sheetTexts()
	for name, list := range goodSheets() {
		for _, x := range list {
			texts.check(t, name, x, plainSheetText(x))
		}
	}
	for day := int64(0); day <= lastDay; day++ {
		for _, x := range []impl.Sheet{sheetOn(day), sheetOn(day, 1+day*49)} {
			texts.check(t, "any day", x, plainSheetText(x))
		}
	}
	for name, x := range noSheetSingles() {
		if got, code := impl.ReadSheet(plainSheetText(x)); !isZeroSheet(got) || code != impl.ErrSyntax {
			t.Errorf("%s: ReadSheet of %q is %v, %d, want ErrSyntax", name, plainSheetText(x), got, code)
		}
	}
}

// sheetPattern matches texts of a day and a list whose numbers are written as in the texts of sheets.
var sheetPattern = regexp.MustCompile(`\A(0|[1-9][0-9]{0,4})=(-|[1-9][0-9]{0,6}(?:,[1-9][0-9]{0,6})*)\z`)

// checkReadSheet holds ReadSheet against the pattern and reports whether s is the text of a sheet.
func checkReadSheet(t *testing.T, s string) bool {
	t.Helper()
	want, wantCode := impl.Sheet{}, int64(impl.ErrSyntax)
	if m := sheetPattern.FindStringSubmatch(s); m != nil {
		if x := sheetOn(numbersOf(m[1])[0], numbersOf(m[2])...); areRightSheets([]impl.Sheet{x}) {
			want, wantCode = x, impl.ErrNone
		}
	}
	if got, code := impl.ReadSheet(s); !equalSheet(got, want) || code != wantCode {
		t.Errorf("ReadSheet of %q is %v, %d, want %v, %d", s, got, code, want, wantCode)
	}
	return wantCode == impl.ErrNone
}

func TestReadSheetSyntax(t *testing.T) {
	texts := []string{
		"", "=", "==", "-", "98", "98-", "98,", "98=", "=98", "=-", "=7", "-=", "-=-", "-=7", "98=-=", "98==-", "=98=-", "98=7=", "98==7", "=98=7", "98=7=8", "98=3=7", "98=3,7=", "98=3,=7", "9=8=7",
		"983,7", "98 3,7", "98/3,7", "98:3,7", "98,3,7", "98-3,7", "98==3,7", "98=/3,7", "98≠7", "98＝7",
		"098=7", "00=7", "098=-", "0098=7", "98=07", "98=3,07", "98=03,7", "98=0", "98=00", "98=0,7", "98=7,0", "98=-0",
		"+98=7", "-98=7", "-0=7", "--98=7", "98=+7", "98=-7", "98=--7", "98=3,+7", "98=3,-7", "98=-3,7", "98=+3,7", "98=+-", "98=--", "+0=-", "-0=-",
		" 98=7", "98 =7", "98= 7", "98=7 ", "98=3, 7", "98=3 ,7", "9 8=7", "98=1 1", "\t98=7", "98=7\n", "98=7\r\n", "\n98=7", "98= -", "98=- ", " 98=-", "98 = 7", "98=\n7",
		"98=,", "98=,7", "98=7,", "98=3,,7", "98=,3,7", "98=3,7,", "98=3;7", "98=3.7", "98=3,7.", "98=-,", "98=-,7", "98=7,-", "98=-,-", "98=3,-,7", "98=,-",
		"-1=7", "20001=7", "20001=-", "-1=-", "30000=7", "99999=7", "100000=7", "4294967394=7", "9223372036854775807=7", "-9223372036854775808=7", "9223372036854775808=7", "18446744073709551714=7", "99999999999999999999999999=7",
		"98=1000001", "98=7,1000001", "98=9999999", "98=1000000000000", "98=1000000000001", "98=4294967303", "98=9223372036854775807", "98=9223372036854775808", "98=18446744073709551623", "98=99999999999999999999999999",
		"98=7,7", "98=7,3", "98=3,7,7", "98=3,3,7", "98=3,11,7", "98=7,3,11", "98=11,7,3", "98=1000000,1",
		"a=7", "98=a", "98=3,a", "a98=7", "98a=7", "98=7a", "98=seven", "0x62=7", "98=0x7", "98=1e3", "1e1=7", "98=1_000", "1_0=7", "98.0=7", "98=7.0", "٩=7", "98=７", "\xff=7", "98=\xff", "98=7\x00", "\x0098=7", "98\x00=7",
		"98=" + strings.Repeat("7,", 60) + "7", strings.Repeat("=", 100000), strings.Repeat("7", 100000), "98=" + strings.Repeat("1", 100000), "98=" + strings.Repeat("1,", 100000) + "1", strings.Repeat("98=7", 1000), strings.Repeat("0", 1000) + "98=7",
		plainSheetText(sheetOn(98, numbersUpTo(61, 1)...)), plainSheetText(sheetOn(98, numbersTo(60, 1)...)), plainSheetText(sheetOn(98, everyDay(999942, 1, 60)...)),
	}
	for _, s := range texts {
		if checkReadSheet(t, s) {
			t.Errorf("%q is the text of a sheet for the tests", s)
		}
	}
}

// Every text that differs by one or two bytes from the text of a sheet is read only if it is one.
func TestReadSheetTakesNothingElse(t *testing.T) {
	right := 0
	check := func(s string) {
		if checkReadSheet(t, s) {
			right++
		}
	}
	texts := []string{"0=-", "98=-", "98=7", "20000=1,1000000", "98=3,7,11", "5=9,10", plainSheetText(sheetOn(98, numbersUpTo(59, 7)...)), plainSheetText(sheetOn(19999, numbersUpTo(60, 1)...))}
	for _, text := range texts {
		check(text)
		for _, one := range neighbours(text) {
			check(one)
		}
		for i := range len(text) {
			check(text[:i] + "=" + text[i:])
			check(text[:i] + "=" + text[i+1:])
			for _, b := range []byte("0129,=-+ ") {
				if len(text) > 30 {
					break
				}
				for _, two := range neighbours(text[:i] + string([]byte{b}) + text[i+1:]) {
					check(two)
				}
			}
		}
	}
	for _, s := range textsOver("-=,012", 6) {
		check(s)
	}
	if right < 1000 {
		t.Errorf("only %d texts of sheets were tried", right)
	}
}

// randomSheets returns up to count sheets of few days and few persons.
func randomSheets(g *rand.Rand, count int, from, days, people int64) []impl.Sheet {
	r := register{}
	for range g.IntN(count + 1) {
		day := from + g.Int64N(days)
		r[day] = map[int64]bool{}
		for range g.IntN(20) {
			r[day][1+g.Int64N(people)] = true
		}
	}
	return r.sheets()
}

func TestRandomSheets(t *testing.T) {
	g := rand.New(rand.NewPCG(1, 11))
	for i := range 300 {
		from, days, people := g.Int64N(19000), 1+g.Int64N(20), 1+g.Int64N(60)
		if i%4 == 0 {
			from = lastDay + 1 - days
		}
		list := randomSheets(g, 15, from, days, people)
		what := "random " + strconv.Itoa(i)
		checkSheets(t, what, list, numbersOnSheets(list), daysOfSheets(list))
		for range 5 {
			checkWithCalls(t, what, list, randomCalls(g, from, days), daysOfSheets(list))
		}
	}
}

// One number of a right list is changed at random.
func TestRandomSheetsWithFaults(t *testing.T) {
	g := rand.New(rand.NewPCG(2, 11))
	wrong := 0
	for range 20000 {
		list := randomSheets(g, 8, 0, 20, 40)
		if len(list) == 0 {
			continue
		}
		x := &list[g.IntN(len(list))]
		if len(x.Present) == 0 || g.IntN(2) == 0 {
			x.Day += g.Int64N(9) - 4
		} else {
			x.Present[g.IntN(len(x.Present))] += g.Int64N(9) - 4
		}
		want := areRightSheets(list)
		if got := impl.AreSheets(list); got != want {
			t.Fatalf("AreSheets of %v is %t", list, got)
		}
		if !want {
			wrong++
		}
	}
	if wrong < 5000 || wrong > 15000 {
		t.Errorf("%d of the random lists are none", wrong)
	}
}

// Persons are marked in any order, up to the limits and beyond them.
func TestSheetsThatGoOn(t *testing.T) {
	g := rand.New(rand.NewPCG(3, 11))
	for i := range 40 {
		var list []impl.Sheet
		days, people := 1+g.Int64N(20), 1+g.Int64N(80)
		for range 400 {
			day, number := g.Int64N(days), g.Int64N(people+2)
			if i%5 == 0 {
				day, number = lastDay+1-day, 1000001-number
			}
			if next := checkMark(t, "going on", list, day, number); len(next) > 0 {
				list = next
			}
		}
		checkSheets(t, "gone on", list, numbersOnSheets(list), daysOfSheets(list))
	}
}

// isInOne reports whether a number is in exactly one of two lists.
func isInOne(number int64, a, b []int64) bool {
	return slices.Contains(a, number) != slices.Contains(b, number)
}

// checkIsPresent checks that a person who was marked on a day is present there, and that for
// everybody else nothing has changed.
func checkIsPresent(t *testing.T, what string, before, marked []impl.Sheet, calls []impl.Call, day, number int64) {
	t.Helper()
	if !impl.AreSheets(marked) {
		t.Fatalf("%s: MarkPresent of %d on %d gives no sheets: %v", what, number, day, marked)
	}
	days, _ := impl.DaysPresent(marked, number)
	run, _ := impl.LongestRun(marked, number)
	_, most, _ := impl.MostPresent(marked)
	if !slices.Contains(days, day) || run < 1 || most < int64(len(days)) {
		t.Fatalf("%s: %d was marked on %d, but is present on %v", what, number, day, days)
	}
	absent, code := impl.AbsentOn(marked, calls, day)
	if code != impl.ErrNone || slices.Contains(absent, number) {
		t.Fatalf("%s: %d was marked on %d, but absent are %v, %d", what, number, day, absent, code)
	}
	if again, code := impl.MarkPresent(marked, day, number); len(again) != 0 || code != impl.ErrState {
		t.Fatalf("%s: MarkPresent of %d on %d once more is %v, %d", what, number, day, again, code)
	}
	r, others := registerOf(marked), registerOf(before)
	delete(r[day], number)
	if others[day] == nil {
		others[day] = map[int64]bool{}
	}
	if !equalSheets(r.sheets(), others.sheets()) {
		t.Fatalf("%s: MarkPresent of %d on %d has made %v of %v", what, number, day, marked, before)
	}
}

// The promise P11: whoever was called is present or absent, and a marked person is present.
func TestWhoeverWasCalledIsPresentOrAbsent(t *testing.T) {
	marks := 0
	for name, list := range goodSheets() {
		for _, x := range list {
			for what, calls := range callsAround(x) {
				what = name + ", " + what
				called, _ := impl.CalledOn(calls, x.Day)
				absent, code := impl.AbsentOn(list, calls, x.Day)
				uncalled, two := impl.UncalledOn(list, calls, x.Day)
				if code != impl.ErrNone || two != impl.ErrNone {
					t.Fatalf("%s: AbsentOn and UncalledOn %d are %d, %d", what, x.Day, code, two)
				}
				for _, number := range called {
					if !isInOne(number, x.Present, absent) {
						t.Fatalf("%s: %d was called for %d; present are %v, absent %v", what, number, x.Day, x.Present, absent)
					}
				}
				for _, number := range x.Present {
					if !isInOne(number, called, uncalled) {
						t.Fatalf("%s: %d is present on %d; called are %v, uncalled %v", what, number, x.Day, called, uncalled)
					}
				}
				if !isAmong(absent, called) || !isAmong(uncalled, x.Present) {
					t.Fatalf("%s: absent on %d are %v of %v, uncalled %v of %v", what, x.Day, absent, called, uncalled, x.Present)
				}
				for _, number := range append(absent, 500, 1000000) {
					for _, day := range []int64{x.Day, 99, 300} {
						marked, code := impl.MarkPresent(list, day, number)
						if code == impl.ErrNone {
							checkIsPresent(t, what, list, marked, calls, day, number)
							marks++
						}
					}
				}
			}
		}
	}
	if marks < 1000 {
		t.Errorf("only %d marks were made", marks)
	}
}

// sheetResult is what one of the functions returns: sheets, numbers or days, a person and a count, and a code.
type sheetResult struct {
	sheets      []impl.Sheet
	numbers     []int64
	number, max int64
	code        int64
}

func (r sheetResult) isError(code int64) bool {
	return len(r.sheets) == 0 && len(r.numbers) == 0 && r.number == 0 && r.max == 0 && r.code == code
}

// sheetFunctions are the functions of the chapter that have a list; what they have no use for is left out.
func sheetFunctions() map[string]func(list []impl.Sheet, calls []impl.Call, day, number int64) sheetResult {
	return map[string]func(list []impl.Sheet, calls []impl.Call, day, number int64) sheetResult{
		"MarkPresent": func(list []impl.Sheet, _ []impl.Call, day, number int64) (r sheetResult) {
			r.sheets, r.code = impl.MarkPresent(list, day, number)
			return r
		},
		"DaysPresent": func(list []impl.Sheet, _ []impl.Call, _, number int64) (r sheetResult) {
			r.numbers, r.code = impl.DaysPresent(list, number)
			return r
		},
		"AbsentOn": func(list []impl.Sheet, calls []impl.Call, day, _ int64) (r sheetResult) {
			r.numbers, r.code = impl.AbsentOn(list, calls, day)
			return r
		},
		"UncalledOn": func(list []impl.Sheet, calls []impl.Call, day, _ int64) (r sheetResult) {
			r.numbers, r.code = impl.UncalledOn(list, calls, day)
			return r
		},
		"LongestRun": func(list []impl.Sheet, _ []impl.Call, _, number int64) (r sheetResult) {
			r.max, r.code = impl.LongestRun(list, number)
			return r
		},
		"MostPresent": func(list []impl.Sheet, _ []impl.Call, _, _ int64) (r sheetResult) {
			r.number, r.max, r.code = impl.MostPresent(list)
			return r
		},
	}
}

// hasCalls tells which functions have calls.
func hasCalls(name string) bool {
	return name == "AbsentOn" || name == "UncalledOn"
}

// Wrong sheets or wrong calls are ErrInvalid, whatever the other arguments are.
func TestInvalidSheets(t *testing.T) {
	some, calls := []impl.Sheet{sheetOn(98, 3, 7), sheetOn(105, 7)}, []impl.Call{callFor(7, 98)}
	noCalls := badCalls()
	for what, function := range sheetFunctions() {
		for _, day := range []int64{98, 99, 105, 0, 20000, -1, 20001, math.MinInt64} {
			for _, number := range []int64{7, 3, 8, 1, 0, 1000001, math.MaxInt64} {
				for name, no := range badSheets() {
					if got := function(no, calls, day, number); !got.isError(impl.ErrInvalid) {
						t.Fatalf("%s: %s on %d of %d is %v, want ErrInvalid", name, what, day, number, got)
					}
				}
			}
			if !hasCalls(what) {
				continue
			}
			for name, no := range noCalls {
				for _, list := range [][]impl.Sheet{some, nil, {sheetOn(-1)}} {
					if got := function(list, no, day, 7); !got.isError(impl.ErrInvalid) {
						t.Fatalf("%s: %s on %d is %v, want ErrInvalid", name, what, day, got)
					}
				}
			}
		}
	}
}

// A day or a number out of its range is ErrRange before a day without a sheet is ErrNotFound, a
// person who is present already ErrState, and a limit ErrLimit; nobody who is looked for is ErrRange.
func TestSheetErrorOrder(t *testing.T) {
	calls := []impl.Call{callFor(7, 98)}
	full := sheetsOn(everyDay(98, 1, 15), numbersUpTo(60, 2)...)
	for _, list := range [][]impl.Sheet{nil, {sheetOn(98, 3, 7), sheetOn(105, 7)}, full} {
		for what, function := range sheetFunctions() {
			for _, number := range append(notNumbers(), 1, 3, 7, 1000000) {
				for _, day := range notDays() {
					if got := function(list, calls, day, number); (hasCalls(what) || what == "MarkPresent") && !got.isError(impl.ErrRange) {
						t.Errorf("%s on %d of %d is %v, want ErrRange", what, day, number, got)
					}
				}
				for _, day := range []int64{0, 97, 113, 20000} {
					if got := function(list, calls, day, number); hasCalls(what) && !got.isError(impl.ErrNotFound) {
						t.Errorf("%s on %d is %v, want ErrNotFound", what, day, got)
					}
				}
			}
		}
		for _, number := range notNumbers() {
			for _, day := range append(notDays(), 0, 98, 105, 20000) {
				if got, code := impl.MarkPresent(list, day, number); len(got) != 0 || code != impl.ErrRange {
					t.Errorf("MarkPresent of %d on %d is %v, %d, want ErrRange", number, day, got, code)
				}
			}
			checkDaysPresent(t, "nobody", list, number, nil)
			checkRun(t, "nobody", list, number, 0)
		}
	}
}

// spoilSheets overwrites a result up to its capacity, and the lists in it.
func spoilSheets(list []impl.Sheet) {
	list = list[:cap(list)]
	for i := range list {
		spoil(list[i].Present)
		list[i] = sheetOn(-7, -7)
	}
}

// presentLists returns the lists of persons in sheets, which are not copied.
func presentLists(list []impl.Sheet) [][]int64 {
	var lists [][]int64
	for _, x := range list {
		lists = append(lists, x.Present)
	}
	return lists
}

// sheetsWithSpare returns a copy of a list with sheets in the spare capacity behind it and numbers
// in that behind each list of persons, and a copy of all of them.
func sheetsWithSpare(list []impl.Sheet) (part, kept []impl.Sheet) {
	part = slices.Grow([]impl.Sheet{}, len(list)+2)
	for _, x := range list {
		present, whole := withSpare(x.Present)
		part = append(part, sheetOn(x.Day, present...))
		kept = append(kept, sheetOn(x.Day, slices.Clone(whole)...))
	}
	spare := append(part, sheetOn(50, 5), impl.Sheet{})
	return part, append(kept, copiedSheets(spare[len(part):])...)
}

// isAsBefore reports whether a list that sheetsWithSpare has returned, and what is behind it, are
// still as in the copy that was kept of them.
func isAsBefore(part, kept []impl.Sheet) bool {
	for i, x := range part[:len(part)+2] {
		if i < len(part) {
			x.Present = x.Present[:len(x.Present)+3]
		}
		if !equalSheet(x, kept[i]) {
			return false
		}
	}
	return true
}

// sheetResults calls all functions for some numbers and days.
func sheetResults(list []impl.Sheet, calls []impl.Call) []sheetResult {
	var results []sheetResult
	functions := sheetFunctions()
	for _, name := range slices.Sorted(maps.Keys(functions)) {
		for _, number := range []int64{1, 2, 7, 8, 30, 1000000} {
			for _, day := range []int64{0, 97, 98, 105, 20000} {
				results = append(results, functions[name](list, calls, day, number))
			}
		}
	}
	return results
}

func (r sheetResult) copied() sheetResult {
	r.sheets, r.numbers = copiedSheets(r.sheets), slices.Clone(r.numbers)
	return r
}

func (r sheetResult) equals(other sheetResult) bool {
	return equalSheets(r.sheets, other.sheets) && slices.Equal(r.numbers, other.numbers) && r.number == other.number && r.max == other.max && r.code == other.code
}

func (r sheetResult) spoil() {
	spoilSheets(r.sheets)
	spoil(r.numbers)
}

func TestResultsAreNew11(t *testing.T) {
	for name, list := range goodSheets() {
		for _, calls := range [][]impl.Call{nil, callsTo(numbersUpTo(20, 3), 98), callsTo(numbersUpTo(20, 3), 0)} {
			part, keptSheets := sheetsWithSpare(list)
			keptCalls := slices.Clone(calls)
			results, again := sheetResults(part, calls), sheetResults(part, calls)
			for i, result := range results {
				kept := result.copied()
				again[i].spoil()
				if !result.equals(kept) {
					t.Errorf("%s: results of two calls share memory: %v", name, result)
				}
				checkPartsAreApart(t, name, presentLists(result.sheets))
				result.spoil()
				if !isAsBefore(part, keptSheets) || !slices.Equal(calls, keptCalls) {
					t.Fatalf("%s: a result shares memory with an argument: %v, %v", name, part, calls)
				}
			}
		}
	}
}

// What is returned for sheets that were returned shares no memory with them.
func TestResultsOfResultsAreNew11(t *testing.T) {
	for name, list := range goodSheets() {
		for _, result := range sheetResults(list, nil) {
			kept := result.copied()
			if len(result.sheets) == 0 {
				continue
			}
			for _, later := range sheetResults(result.sheets, nil) {
				later.spoil()
			}
			if !result.equals(kept) {
				t.Fatalf("%s: a result shares memory with an argument: %v", name, result)
			}
		}
	}
}

func TestArgumentsAreKept11(t *testing.T) {
	lists := goodSheets()
	for name, list := range badSheets() {
		lists["no sheets: "+name] = list
	}
	for name, list := range lists {
		part, keptSheets := sheetsWithSpare(list)
		calls, wholeCalls := callsWithSpare(callsTo(numbersUpTo(20, 3), 98))
		keptCalls := slices.Clone(wholeCalls)
		impl.AreSheets(part)
		for _, x := range part {
			impl.SheetText(x)
		}
		for _, function := range sheetFunctions() {
			for _, number := range []int64{0, 1, 2, 7, 8, 500, 1000000, 1000001} {
				for _, day := range []int64{-1, 0, 50, 97, 98, 105, 20000, 20001} {
					function(part, calls, day, number)
					function(part, wholeCalls, day, number)
				}
			}
		}
		if !isAsBefore(part, keptSheets) || !slices.Equal(wholeCalls, keptCalls) {
			t.Errorf("%s: an argument was changed: %v, %v", name, part, wholeCalls)
		}
	}
}

// A sheet that was read shares no memory with one that was read from the same text.
func TestSheetsReadAreNew(t *testing.T) {
	for name, list := range goodSheets() {
		for _, x := range list {
			one, _ := impl.ReadSheet(plainSheetText(x))
			other, _ := impl.ReadSheet(plainSheetText(x))
			spoil(other.Present)
			if !equalSheet(one, x) {
				t.Errorf("%s: results of two calls share memory: %v", name, one)
			}
		}
	}
}
