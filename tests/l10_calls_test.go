package tests

import (
	"maps"
	"math"
	"math/rand/v2"
	"slices"
	"strconv"
	"testing"

	"loop.example/g01027/impl"
)

// callFor returns a call that has not been moved.
func callFor(number, day int64) impl.Call {
	return impl.Call{Number: number, First: day, Day: day}
}

// movedCall returns a call that has been moved some times.
func movedCall(number, first, day, moves int64) impl.Call {
	return impl.Call{Number: number, First: first, Day: day, Moves: moves}
}

// callsForDays returns calls with the numbers first, first + step and so on, one for each day.
func callsForDays(first, step int64, days []int64) []impl.Call {
	var list []impl.Call
	for i, day := range days {
		list = append(list, callFor(first+int64(i)*step, day))
	}
	return list
}

// mixedCalls returns count calls for several days, moved 0, 1 and 2 times in turn.
func mixedCalls(count int) []impl.Call {
	var list []impl.Call
	for i := range int64(count) {
		first := 900 + i*11%37
		day := first
		if i%3 > 0 {
			day += 1 + i*5%9
		}
		list = append(list, movedCall(3+7*i, first, day, i%3))
	}
	return list
}

// goodCallSingles returns calls, among them each value of a field at its limits.
func goodCallSingles() map[string]impl.Call {
	singles := map[string]impl.Call{
		"not moved": callFor(7, 98), "the least": callFor(1, 98), "the second": callFor(2, 98), "the greatest": callFor(1000000, 98), "the last but 1": callFor(999999, 98),
		"on day 0": callFor(7, 0), "on day 1": callFor(7, 1), "on the last day": callFor(7, 20000), "on the last day but 1": callFor(7, 19999),
		"on a Friday": callFor(7, 102), "on a Saturday": callFor(7, 103), "on a Sunday": callFor(7, 104),

		"for 180 behind a Tuesday, a Sunday": callFor(7, 99), "for 180 behind a Wednesday, a Monday": callFor(7, 100),
		"180 days ahead of the last day": callFor(7, 19820), "181 days ahead of the last day": callFor(7, 19819), "179 days ahead of the last day": callFor(7, 19821), "10 days ahead of the last day": callFor(7, 19990),

		"moved once with most days left": movedCall(7, 19820, 19821, 1), "moved to the last day": movedCall(7, 19900, 20000, 1), "moved to the last day but 1": movedCall(7, 19900, 19999, 1),
		"moved twice, to the last day": movedCall(7, 19900, 20000, 2), "moved from the last day but 1": movedCall(7, 19999, 20000, 1), "moved from day 0 to the last": movedCall(7, 0, 20000, 1),
	}
	for moves := int64(1); moves <= 2; moves++ {
		name := "moved " + strconv.Itoa(int(moves)) + " times by "
		for _, by := range []int64{1, 2, 3, 90, 172, 173, 176, 177, 178, 179, 180, 181, 182, 1000} {
			singles[name+strconv.Itoa(int(by))] = movedCall(7, 100, 100+by, moves)
			singles[name+strconv.Itoa(int(by))+" from day 0"] = movedCall(7, 0, by, moves)
		}
	}
	return singles
}

// withOneCall returns a list in which a call stands between others, or at the end where its number is.
func withOneCall(one impl.Call) []impl.Call {
	list := []impl.Call{callFor(4, one.First), movedCall(5, 90, 97, 2), one, callFor(11, one.Day), movedCall(12, 100, 105, 1)}
	return byCallNumber(list)
}

// byCallNumber returns calls in the order of their numbers.
func byCallNumber(list []impl.Call) []impl.Call {
	sorted := slices.Clone(list)
	slices.SortFunc(sorted, func(a, b impl.Call) int { return int(a.Number - b.Number) })
	return sorted
}

// goodCalls returns lists of calls.
func goodCalls() map[string][]impl.Call {
	lists := map[string][]impl.Call{
		"nil": nil, "none": {},
		"neighbours":              {callFor(7, 98), callFor(8, 98)},
		"the ends":                {callFor(1, 98), callFor(1000000, 91)},
		"days falling":            {callFor(1, 300), callFor(2, 200), callFor(3, 100), callFor(4, 0)},
		"days mixed":              {callFor(1, 105), callFor(2, 98), callFor(3, 112), callFor(4, 98), callFor(5, 105), callFor(6, 98)},
		"days falling, in pairs":  {callFor(1, 112), callFor(2, 112), callFor(3, 105), callFor(4, 105), callFor(5, 98), callFor(6, 98)},
		"one day, moved or not":   {callFor(1, 105), movedCall(2, 98, 105, 1), movedCall(3, 90, 105, 2), movedCall(4, 104, 105, 1)},
		"one first day":           {callFor(1, 98), movedCall(2, 98, 99, 1), movedCall(3, 98, 100, 2), movedCall(4, 98, 104, 1)},
		"full days ahead":         {callFor(1, 99), callFor(2, 100), callFor(3, 101), callFor(7, 98), callFor(8, 105)},
		"one full day in between": {callFor(7, 98), callFor(8, 100), callFor(9, 100)},

		"19, mixed":             mixedCalls(19),
		"20, mixed":             mixedCalls(20),
		"20 for one day":        callsForDays(1, 1, repeated[int64](20, 98)),
		"20 for day 0":          callsForDays(5, 1, repeated[int64](20, 0)),
		"20 for the last day":   callsForDays(5, 1, repeated[int64](20, 20000)),
		"20 up to the greatest": callsForDays(999981, 1, repeated[int64](20, 98)),
		"20 far apart":          callsForDays(1, 52631, everyDay(0, 1052, 20)),
		"20 for days in a row":  callsForDays(1, 1, everyDay(98, 1, 20)),
		"20 for workdays":       callsForDays(1, 1, workdaysFrom(98, 20)),
		"20 workdays, falling":  reversedDays(callsForDays(1, 1, workdaysFrom(98, 20))),
		"20 at the end":         callsForDays(1, 1, workdaysUpTo(20000, 20)),
		"one, then 19":          append([]impl.Call{callFor(1, 98)}, callsForDays(2, 1, repeated[int64](19, 99))...),
		"19, then one":          append(callsForDays(1, 1, repeated[int64](19, 99)), callFor(20, 98)),
		"all days at the end":   append(callsForDays(1, 1, append(workdaysFrom(271, 6), 280)), movedCall(9, 100, 270, 1)),
		"all but one":           append(callsForDays(1, 1, workdaysFrom(271, 5)), movedCall(9, 100, 270, 1)),
	}
	for name, one := range goodCallSingles() {
		lists["one, "+name] = []impl.Call{one}
		lists["several, "+name] = withOneCall(one)
	}
	return lists
}

// reversedDays returns calls, not moved, with the same numbers and the days in the other order.
func reversedDays(list []impl.Call) []impl.Call {
	reversed := slices.Clone(list)
	for i, c := range list {
		reversed[len(list)-1-i].Day, reversed[len(list)-1-i].First = c.Day, c.First
	}
	return reversed
}

// noCallSingles returns what is no call for one fault, and the zero value.
func noCallSingles() map[string]impl.Call {
	none := map[string]impl.Call{
		"zero":     {},
		"number 0": callFor(0, 98), "number -1": callFor(-1, 98), "number 1000001": callFor(1000001, 98),
		"the least number": callFor(math.MinInt64, 98), "the greatest number": callFor(math.MaxInt64, 98),
		"for -1": callFor(7, -1), "for 20001": callFor(7, 20001), "for the least day": callFor(7, math.MinInt64), "for the greatest day": callFor(7, math.MaxInt64),
		"first on -1": movedCall(7, -1, 98, 1), "first on -1, now on 0": movedCall(7, -1, 0, 1), "first on the least": movedCall(7, math.MinInt64, 98, 1), "first on the least, now on the greatest": movedCall(7, math.MinInt64, math.MaxInt64, 1),
		"now on 20001": movedCall(7, 98, 20001, 1), "first on 20000, now on 20001": movedCall(7, 20000, 20001, 1), "now on the greatest": movedCall(7, 98, math.MaxInt64, 1), "now on -1": movedCall(7, 0, -1, 1),
		"first on 20001": movedCall(7, 20001, 98, 1), "first on the greatest": movedCall(7, math.MaxInt64, 98, 1), "now on the least": movedCall(7, 98, math.MinInt64, 1),
		"moved -1 times": movedCall(7, 98, 99, -1), "moved 3 times": movedCall(7, 98, 99, 3), "moved 3 times to the same day": movedCall(7, 98, 98, 3), "moved -1 times to the same day": movedCall(7, 98, 98, -1),
		"moved the least times": movedCall(7, 98, 99, math.MinInt64), "moved most times": movedCall(7, 98, 99, math.MaxInt64), "moved as often as a word wraps": movedCall(7, 98, 99, 1<<32+1),
		"not moved, a day later": movedCall(7, 98, 99, 0), "not moved, far later": movedCall(7, 0, 20000, 0), "not moved, a day before": movedCall(7, 98, 97, 0),
	}
	for moves := int64(1); moves <= 2; moves++ {
		name := "moved " + strconv.Itoa(int(moves)) + " times"
		none[name+" to the same day"] = movedCall(7, 98, 98, moves)
		none[name+" from 0 to 0"] = movedCall(7, 0, 0, moves)
		none[name+" from 20000 to 20000"] = movedCall(7, 20000, 20000, moves)
		none[name+" to a day before"] = movedCall(7, 98, 97, moves)
		none[name+" to far before"] = movedCall(7, 20000, 0, moves)
		none[name+" from -1"] = movedCall(7, -1, 98, moves)
		none[name+" to 20001"] = movedCall(7, 98, 20001, moves)
	}
	return none
}

// badCalls returns lists that are no calls, for one fault each.
func badCalls() map[string][]impl.Call {
	one := callFor(7, 98)
	lists := map[string][]impl.Call{
		"21 for one day": callsForDays(1, 1, repeated[int64](21, 98)), "21, mixed": mixedCalls(21), "1000": callsForDays(1, 5, repeated[int64](1000, 98)), "21 zero values": repeated(21, impl.Call{}),
		"twice the same": repeated(2, one), "20 times the same": repeated(20, one), "equal numbers, other days": {callFor(7, 98), callFor(7, 200)}, "equal numbers, moved or not": {callFor(7, 98), movedCall(7, 98, 105, 1)},
		"equal first two": {callFor(3, 98), callFor(3, 200), one}, "equal last two": {callFor(3, 98), one, one}, "equal in the middle": {callFor(3, 98), one, one, callFor(9, 98)}, "the first again": {callFor(3, 98), one, callFor(3, 98)},
		"falling by 1": {callFor(8, 98), callFor(7, 98)}, "falling": {callFor(9, 98), callFor(7, 200), callFor(5, 300)}, "falling at the front": {callFor(7, 98), callFor(5, 98), callFor(9, 98)},
		"falling at the end": {callFor(5, 98), callFor(9, 98), callFor(7, 98)}, "the greatest first": {callFor(1000000, 98), callFor(1, 98)},
	}
	for count := 19; count <= 20; count++ {
		name := strconv.Itoa(count)
		last := mixedCalls(count)
		last[count-1].Number = last[count-2].Number
		lists[name+", equal last two"] = last
		swapped := mixedCalls(count)
		swapped[0], swapped[1] = swapped[1], swapped[0]
		lists[name+", first two swapped"] = swapped
	}
	before, behind := callsForDays(1, 1, repeated[int64](6, 98)), callsForDays(8, 1, repeated[int64](9, 98))
	for name, no := range noCallSingles() {
		lists[name] = []impl.Call{no}
		if no.Number >= 7 {
			lists[name+", behind"] = append(slices.Clone(before), no)
		}
		if no.Number <= 7 {
			lists[name+", in front"] = append([]impl.Call{no}, behind...)
		}
		if no.Number == 7 {
			lists[name+", inside"] = slices.Concat(before, []impl.Call{no}, behind)
		}
	}
	return lists
}

// areRightCalls is an independent check of a list.
func areRightCalls(list []impl.Call) bool {
	last := int64(0)
	for _, c := range list {
		if c.Number <= last || c.Number > 1000000 || c.First < 0 || c.Day > lastDay {
			return false
		}
		switch c.Moves {
		case 0:
			if c.First != c.Day {
				return false
			}
		case 1, 2:
			if c.First >= c.Day {
				return false
			}
		default:
			return false
		}
		last = c.Number
	}
	return len(list) <= 20
}

// daysToMove returns the days to which a call may be moved, found by going on from its first day.
func daysToMove(holidays []int64, c impl.Call) []int64 {
	var days []int64
	day := c.First
	for range 180 {
		day++
		if day <= lastDay && day > c.Day && c.Moves < 2 && isOpen(holidays, day) {
			days = append(days, day)
		}
	}
	return days
}

// agenda holds the numbers called for each day, in order.
type agenda map[int64][]int64

func agendaOf(list []impl.Call) agenda {
	days := agenda{}
	for _, c := range list {
		days[c.Day] = append(days[c.Day], c.Number)
	}
	return days
}

// crowded returns the days for which more than room calls are, strictly increasing.
func (days agenda) crowded(room int) []int64 {
	var crowded []int64
	for _, day := range slices.Sorted(maps.Keys(days)) {
		if len(days[day]) > room {
			crowded = append(crowded, day)
		}
	}
	return crowded
}

// callWith returns the call with a number, and whether there is one.
func callWith(list []impl.Call, number int64) (impl.Call, bool) {
	for _, c := range list {
		if c.Number == number {
			return c, true
		}
	}
	return impl.Call{}, false
}

// callsWithout returns the calls with other numbers.
func callsWithout(list []impl.Call, number int64) []impl.Call {
	return slices.DeleteFunc(slices.Clone(list), func(c impl.Call) bool { return c.Number == number })
}

// refAddCall returns what AddCall should, for holidays and calls that are as described.
func refAddCall(holidays []int64, list []impl.Call, number, day int64) ([]impl.Call, int64) {
	if number < 1 || number > 1000000 || day < 0 || day > lastDay {
		return nil, impl.ErrRange
	}
	if _, there := callWith(list, number); there || len(list) > 19 || !isOpen(holidays, day) {
		return nil, impl.ErrState
	}
	return byCallNumber(append(slices.Clone(list), callFor(number, day))), impl.ErrNone
}

// refMoveCall returns what MoveCall should, for calls that are as described, and the days to which
// the call may be moved.
func refMoveCall(list []impl.Call, number, day int64, days []int64) ([]impl.Call, int64) {
	if day < 0 || day > lastDay {
		return nil, impl.ErrRange
	}
	c, there := callWith(list, number)
	if !there {
		return nil, impl.ErrNotFound
	}
	if !slices.Contains(days, day) {
		return nil, impl.ErrState
	}
	moved := movedCall(number, c.First, day, c.Moves+1)
	return byCallNumber(append(callsWithout(list, number), moved)), impl.ErrNone
}

// refFirstRoom returns what FirstRoom should, for calls that are as described, and the days to
// which the call may be moved.
func refFirstRoom(list []impl.Call, number, room int64, days []int64) (int64, int64) {
	if room < 0 || room > 20 {
		return 0, impl.ErrRange
	}
	if _, there := callWith(list, number); !there {
		return 0, impl.ErrNotFound
	}
	others := agendaOf(callsWithout(list, number))
	for _, day := range days {
		if int64(len(others[day])) < room {
			return day, impl.ErrNone
		}
	}
	return 0, impl.ErrState
}

func checkAddCall(t *testing.T, what string, holidays []int64, list []impl.Call, number, day int64) []impl.Call {
	t.Helper()
	want, wantCode := refAddCall(holidays, list, number, day)
	got, code := impl.AddCall(holidays, list, number, day)
	if !slices.Equal(got, want) || code != wantCode {
		t.Errorf("%s: AddCall of %d for %d is %v, %d, want %v, %d", what, number, day, got, code, want, wantCode)
	}
	return got
}

// checkMove checks MayMove and MoveCall, for the days to which the call may be moved.
func checkMove(t *testing.T, what string, holidays []int64, list []impl.Call, number, day int64, days []int64) []impl.Call {
	t.Helper()
	want, wantCode := refMoveCall(list, number, day, days)
	got, code := impl.MoveCall(holidays, list, number, day)
	if !slices.Equal(got, want) || code != wantCode {
		t.Errorf("%s: MoveCall of %d to %d is %v, %d, want %v, %d", what, number, day, got, code, want, wantCode)
	}
	wantMay := wantCode == impl.ErrNone
	if wantCode == impl.ErrState {
		wantCode = impl.ErrNone
	}
	if may, code := impl.MayMove(holidays, list, number, day); may != wantMay || code != wantCode {
		t.Errorf("%s: MayMove of %d to %d is %t, %d, want %t, %d", what, number, day, may, code, wantMay, wantCode)
	}
	return got
}

func checkCalled(t *testing.T, what string, list []impl.Call, day int64, want []int64) {
	t.Helper()
	wantCode := int64(impl.ErrNone)
	if day < 0 || day > lastDay {
		wantCode = impl.ErrRange
	}
	if got, code := impl.CalledOn(list, day); !slices.Equal(got, want) || code != wantCode {
		t.Errorf("%s: CalledOn %d is %v, %d, want %v, %d", what, day, got, code, want, wantCode)
	}
}

func checkRoom(t *testing.T, what string, holidays []int64, list []impl.Call, number, room int64, days []int64) {
	t.Helper()
	want, wantCode := refFirstRoom(list, number, room, days)
	if got, code := impl.FirstRoom(holidays, list, number, room); got != want || code != wantCode {
		t.Errorf("%s: FirstRoom of %d with %d is %d, %d, want %d, %d", what, number, room, got, code, want, wantCode)
	}
}

func checkCrowded(t *testing.T, what string, list []impl.Call, room int64, want []int64) {
	t.Helper()
	if got, code := impl.CrowdedDays(list, room); !slices.Equal(got, want) || code != impl.ErrNone {
		t.Errorf("%s: CrowdedDays with %d is %v, %d, want %v", what, room, got, code, want)
	}
}

func checkDrop(t *testing.T, what string, list []impl.Call, number int64) []impl.Call {
	t.Helper()
	want, wantCode := callsWithout(list, number), int64(impl.ErrNone)
	if _, there := callWith(list, number); !there {
		want, wantCode = nil, impl.ErrNotFound
	}
	got, code := impl.DropCall(list, number)
	if !slices.Equal(got, want) || code != wantCode {
		t.Errorf("%s: DropCall of %d is %v, %d, want %v, %d", what, number, got, code, want, wantCode)
	}
	return got
}

// callNumbers returns the numbers of a list, those beside them, and the ends.
func callNumbers(list []impl.Call) []int64 {
	var numbers []int64
	for _, c := range list {
		numbers = append(numbers, c.Number)
	}
	return numbersBeside(numbers)
}

// daysOfCalls returns the days at both ends and those around all days at which something changes.
func daysOfCalls(list []impl.Call) []int64 {
	var days []int64
	for _, c := range list {
		days = append(days, c.First, c.Day, c.Day+2, c.Day+4, c.Day+6, c.First+174, c.First+177, c.First+180)
	}
	return daysBeside(days)
}

// checkCalls checks all functions with a list, for some numbers and days.
func checkCalls(t *testing.T, what string, holidays []int64, list []impl.Call, numbers, days []int64) {
	t.Helper()
	if !areRightCalls(list) || !impl.AreCalls(list) {
		t.Fatalf("%s: AreCalls of %v is %t, want %t", what, list, impl.AreCalls(list), areRightCalls(list))
	}
	called := agendaOf(list)
	for _, day := range days {
		checkCalled(t, what, list, day, called[day])
	}
	for room := range int64(21) {
		checkCrowded(t, what, list, room, called.crowded(int(room)))
	}
	for _, number := range numbers {
		c, _ := callWith(list, number)
		moveDays := daysToMove(holidays, c)
		for _, day := range days {
			checkAddCall(t, what, holidays, list, number, day)
			checkMove(t, what, holidays, list, number, day, moveDays)
		}
		for room := int64(-2); room <= 22; room++ {
			checkRoom(t, what, holidays, list, number, room, moveDays)
		}
		checkDrop(t, what, list, number)
	}
}

func TestConstants10(t *testing.T) {
	got := []int64{impl.MaxCalls, impl.MaxMoves, impl.MoveDays}
	if want := []int64{20, 2, 180}; !slices.Equal(got, want) {
		t.Errorf("constants are %v, want %v", got, want)
	}
}

func TestAreCalls(t *testing.T) {
	checkWhichAre(t, "AreCalls", impl.AreCalls, areRightCalls, goodCalls(), badCalls())
}

// All calls whose fields are at their limits, one before or one behind.
func TestAreCallsOfOneCall(t *testing.T) {
	days := []int64{-1, 0, 1, 99, 100, 101, 19999, 20000, 20001}
	right := 0
	for _, number := range []int64{-1, 0, 1, 2, 999999, 1000000, 1000001} {
		for _, first := range days {
			for _, day := range days {
				for moves := int64(-1); moves <= 3; moves++ {
					list := []impl.Call{movedCall(number, first, day, moves)}
					want := areRightCalls(list)
					if got := impl.AreCalls(list); got != want {
						t.Fatalf("AreCalls of %v is %t", list, got)
					}
					if want {
						right++
					}
				}
			}
		}
	}
	// For each of 4 numbers: 7 days of calls that were not moved, and 21 pairs of days for those that
	// were, once or twice.
	if right != 4*(7+2*21) {
		t.Errorf("%d calls are right", right)
	}
}

// All lists of up to four calls with the numbers 0 to 4, in all orders.
func TestAreCallsOfAllNumbers(t *testing.T) {
	right := 0
	for _, numbers := range listsOver(0, 4, 4) {
		var list []impl.Call
		for i, number := range numbers {
			list = append(list, callFor(number, int64(9-i)))
		}
		want := areRightCalls(list)
		if got := impl.AreCalls(list); got != want {
			t.Fatalf("AreCalls of %v is %t", list, got)
		}
		if want {
			right++
		}
	}
	if right != 16 {
		t.Errorf("%d lists are right, want one for each set of the numbers 1 to 4", right)
	}
}

func TestAddCall(t *testing.T) {
	some := []impl.Call{callFor(3, 98), movedCall(7, 90, 95, 2), callFor(11, 104)}
	full := mixedCalls(20)
	cases := []struct {
		name        string
		holidays    []int64
		list        []impl.Call
		number, day int64
		want        []impl.Call
		code        int64
	}{
		{"to nil", nil, nil, 7, 98, []impl.Call{callFor(7, 98)}, impl.ErrNone},
		{"to none", []int64{}, []impl.Call{}, 7, 98, []impl.Call{callFor(7, 98)}, impl.ErrNone},
		{"on a Friday", nil, nil, 7, 102, []impl.Call{callFor(7, 102)}, impl.ErrNone},
		{"beside holidays", []int64{97, 99}, nil, 7, 98, []impl.Call{callFor(7, 98)}, impl.ErrNone},
		{"on day 0", nil, nil, 7, 0, []impl.Call{callFor(7, 0)}, impl.ErrNone},
		{"on the last day", nil, nil, 7, 20000, []impl.Call{callFor(7, 20000)}, impl.ErrNone},
		{"the least number", nil, some, 1, 98, slices.Insert(slices.Clone(some), 0, callFor(1, 98)), impl.ErrNone},
		{"ahead of all", nil, some, 2, 98, slices.Insert(slices.Clone(some), 0, callFor(2, 98)), impl.ErrNone},
		{"behind the first", nil, some, 4, 98, slices.Insert(slices.Clone(some), 1, callFor(4, 98)), impl.ErrNone},
		{"before the second", nil, some, 6, 98, slices.Insert(slices.Clone(some), 1, callFor(6, 98)), impl.ErrNone},
		{"between the last two", nil, some, 8, 98, slices.Insert(slices.Clone(some), 2, callFor(8, 98)), impl.ErrNone},
		{"behind all", nil, some, 12, 98, append(slices.Clone(some), callFor(12, 98)), impl.ErrNone},
		{"the greatest number", nil, some, 1000000, 98, append(slices.Clone(some), callFor(1000000, 98)), impl.ErrNone},
		{"the 20th one", nil, full[:19], 500, 98, append(slices.Clone(full[:19]), callFor(500, 98)), impl.ErrNone},

		{"on a Saturday", nil, some, 5, 103, nil, impl.ErrState},
		{"on a Sunday", nil, some, 5, 104, nil, impl.ErrState},
		{"on a holiday", []int64{98}, some, 5, 98, nil, impl.ErrState},
		{"on the last of some holidays", []int64{1, 50, 98}, nil, 5, 98, nil, impl.ErrState},
		{"on the last day, a holiday", []int64{20000}, nil, 5, 20000, nil, impl.ErrState},
		{"number 0", nil, some, 0, 98, nil, impl.ErrRange},
		{"number 1000001", nil, some, 1000001, 98, nil, impl.ErrRange},
		{"on day -1", nil, some, 5, -1, nil, impl.ErrRange},
		{"on day 20001", nil, some, 5, 20001, nil, impl.ErrRange},
		{"the first once more", nil, some, 3, 98, nil, impl.ErrState},
		{"the second once more, for another day", nil, some, 7, 98, nil, impl.ErrState},
		{"the last once more", nil, some, 11, 98, nil, impl.ErrState},
		{"the same once more", nil, []impl.Call{callFor(7, 98)}, 7, 98, nil, impl.ErrState},
		{"the 21st one", nil, full, 500, 98, nil, impl.ErrState},
		{"the 21st one, in front", nil, full, 1, 98, nil, impl.ErrState},
		{"one of 20 once more", nil, full, full[9].Number, 98, nil, impl.ErrState},
	}
	for _, c := range cases {
		if got, code := impl.AddCall(c.holidays, c.list, c.number, c.day); !slices.Equal(got, c.want) || code != c.code {
			t.Errorf("%s: AddCall is %v, %d, want %v, %d", c.name, got, code, c.want, c.code)
		}
	}
}

func TestMoveCall(t *testing.T) {
	at := []impl.Call{callFor(3, 98), movedCall(7, 100, 105, 1), movedCall(9, 100, 105, 2), callFor(11, 100)}
	late := []impl.Call{callFor(1, 19990), movedCall(2, 19900, 20000, 1), callFor(3, 20000), callFor(4, 19820), callFor(5, 19819)}
	far := []impl.Call{movedCall(1, 0, 500, 1), movedCall(2, 0, 180, 1), movedCall(3, 0, 179, 1)}
	first, second, fourth := at[0], at[1], at[3]
	cases := []struct {
		name        string
		holidays    []int64
		list        []impl.Call
		number, day int64
		want        impl.Call // the zero value for ErrState
	}{
		{"a week later", nil, at, 3, 105, movedCall(3, 98, 105, 1)},
		{"one day later", nil, at, 3, 99, movedCall(3, 98, 99, 1)},
		{"to the same day", nil, at, 3, 98, impl.Call{}},
		{"a day before", nil, at, 3, 97, impl.Call{}},
		{"to a court day before", nil, at, 3, 95, impl.Call{}},
		{"to day 0", nil, at, 3, 0, impl.Call{}},
		{"to a Friday", nil, at, 3, 102, movedCall(3, 98, 102, 1)},
		{"to a Saturday", nil, at, 3, 103, impl.Call{}},
		{"to a Sunday", nil, at, 3, 104, impl.Call{}},
		{"to a holiday", []int64{105}, at, 3, 105, impl.Call{}},
		{"behind a holiday", []int64{105}, at, 3, 106, movedCall(3, 98, 106, 1)},
		{"to the Friday before 180 days", nil, at, 3, 277, movedCall(3, 98, 277, 1)},
		{"by 180 days, to a Saturday", nil, at, 3, 278, impl.Call{}},
		{"by 182 days, to a Monday", nil, at, 3, 280, impl.Call{}},
		{"by 180 days", nil, at, 11, 280, movedCall(11, 100, 280, 1)},
		{"by 180 days, to a holiday", []int64{280}, at, 11, 280, impl.Call{}},
		{"by 181 days", nil, at, 11, 281, impl.Call{}},
		{"far later", nil, at, 11, 1000, impl.Call{}},
		{"to the last day", nil, at, 11, 20000, impl.Call{}},

		{"once more", nil, at, 7, 106, movedCall(7, 100, 106, 2)},
		{"once more to the same day", nil, at, 7, 105, impl.Call{}},
		{"back", nil, at, 7, 102, impl.Call{}},
		{"back to the first day", nil, at, 7, 100, impl.Call{}},
		{"once more, by 180 days in all", nil, at, 7, 280, movedCall(7, 100, 280, 2)},
		{"once more, by 181 days in all", nil, at, 7, 281, impl.Call{}},
		{"once more, by 180 days behind the day", nil, at, 7, 285, impl.Call{}},
		{"a third time", nil, at, 9, 106, impl.Call{}},
		{"a third time, by 180 days in all", nil, at, 9, 280, impl.Call{}},
		{"a third time to the same day", nil, at, 9, 105, impl.Call{}},

		{"from 19990 to the last day", nil, late, 1, 20000, movedCall(1, 19990, 20000, 1)},
		{"from 19990 to the last day, a holiday", []int64{20000}, late, 1, 20000, impl.Call{}},
		{"from the last day", nil, late, 2, 20000, impl.Call{}},
		{"on the last day", nil, late, 3, 20000, impl.Call{}},
		{"by 180 days to the last day", nil, late, 4, 20000, movedCall(4, 19820, 20000, 1)},
		{"by 181 days to the last day", nil, late, 5, 20000, impl.Call{}},
		{"moved far away already", nil, far, 1, 501, impl.Call{}},
		{"moved far away already, within 180 days", nil, far, 1, 178, impl.Call{}},
		{"moved by 180 days already", nil, far, 2, 182, impl.Call{}},
		{"moved by 179 days already", nil, far, 3, 180, impl.Call{}},
		{"from day 0 to day 1", nil, []impl.Call{callFor(9, 0)}, 9, 1, movedCall(9, 0, 1, 1)},
	}
	for _, c := range cases {
		want, wantCode, may := []impl.Call(nil), int64(impl.ErrState), false
		if c.want.Number > 0 {
			want, wantCode, may = byCallNumber(append(callsWithout(c.list, c.number), c.want)), impl.ErrNone, true
		}
		if got, code := impl.MoveCall(c.holidays, c.list, c.number, c.day); !slices.Equal(got, want) || code != wantCode {
			t.Errorf("%s: MoveCall is %v, %d, want %v, %d", c.name, got, code, want, wantCode)
		}
		if got, code := impl.MayMove(c.holidays, c.list, c.number, c.day); got != may || code != impl.ErrNone {
			t.Errorf("%s: MayMove is %t, %d, want %t", c.name, got, code, may)
		}
	}
	if at[0] != first || at[1] != second || at[3] != fourth {
		t.Errorf("the calls have been changed: %v", at)
	}
}

// Nobody has the number; it need not be one that a person could have.
func TestCallsOfNobody(t *testing.T) {
	at := []impl.Call{callFor(3, 98), movedCall(7, 100, 105, 1), movedCall(9, 100, 105, 2)}
	for _, list := range [][]impl.Call{nil, {}, at, mixedCalls(20)} {
		for _, number := range append(notNumbers(), 1, 2, 4, 8, 11, 1000000) {
			for _, day := range []int64{0, 99, 103, 280, 20000} {
				if got, code := impl.MoveCall(nil, list, number, day); len(got) != 0 || code != impl.ErrNotFound {
					t.Errorf("MoveCall of %d to %d is %v, %d, want ErrNotFound", number, day, got, code)
				}
				if got, code := impl.MayMove(nil, list, number, day); got || code != impl.ErrNotFound {
					t.Errorf("MayMove of %d to %d is %t, %d, want ErrNotFound", number, day, got, code)
				}
			}
			for _, room := range []int64{0, 1, 20} {
				if got, code := impl.FirstRoom(nil, list, number, room); got != 0 || code != impl.ErrNotFound {
					t.Errorf("FirstRoom of %d with %d is %d, %d, want ErrNotFound", number, room, got, code)
				}
			}
			if got, code := impl.DropCall(list, number); len(got) != 0 || code != impl.ErrNotFound {
				t.Errorf("DropCall of %d is %v, %d, want ErrNotFound", number, got, code)
			}
		}
	}
}

func TestCalledOn(t *testing.T) {
	list := []impl.Call{callFor(2, 105), movedCall(3, 98, 105, 1), callFor(5, 98), movedCall(7, 90, 105, 2), callFor(9, 0), callFor(10, 20000), callFor(11, 103)}
	for _, c := range []struct {
		day  int64
		want []int64
	}{
		{0, []int64{9}}, {1, nil}, {90, nil}, {97, nil}, {98, []int64{5}}, {99, nil}, {103, []int64{11}}, {104, nil}, {105, []int64{2, 3, 7}}, {106, nil}, {19999, nil}, {20000, []int64{10}},
	} {
		checkCalled(t, "several", list, c.day, c.want)
	}
	checkCalled(t, "20 for one day", callsForDays(1, 1, repeated[int64](20, 98)), 98, numbersUpTo(20, 1))
	checkCalled(t, "20 for another day", callsForDays(1, 1, repeated[int64](20, 98)), 99, nil)
	checkCalled(t, "nil", nil, 98, nil)
	checkCalled(t, "none", []impl.Call{}, 0, nil)
}

func TestFirstRoom(t *testing.T) {
	at := []impl.Call{callFor(3, 98), movedCall(7, 100, 105, 1), movedCall(9, 100, 105, 2)}
	full := []impl.Call{callFor(1, 98), callFor(2, 99), callFor(3, 100), callFor(4, 100), callFor(5, 101), callFor(6, 101), callFor(7, 101), callFor(8, 105)}
	nineteen := append([]impl.Call{callFor(1, 98)}, callsForDays(2, 1, repeated[int64](19, 99))...)
	end := append(callsForDays(1, 1, append(workdaysFrom(271, 5), 280)), movedCall(9, 100, 270, 1))
	late := []impl.Call{callFor(1, 19990), movedCall(2, 19900, 19997, 1), callFor(3, 19999), callFor(4, 20000)}
	together := callsForDays(1, 1, repeated[int64](20, 98))
	far := []impl.Call{movedCall(1, 0, 500, 1), movedCall(2, 0, 180, 1), movedCall(3, 0, 179, 1), movedCall(4, 0, 177, 1), movedCall(5, 0, 176, 2)}
	cases := []struct {
		name         string
		holidays     []int64
		list         []impl.Call
		number, room int64
		want         int64 // -1 for ErrState
	}{
		{"the next day", nil, at, 3, 1, 99},
		{"the next day, with much room", nil, at, 3, 20, 99},
		{"no room at all", nil, at, 3, 0, -1},
		{"behind a holiday", []int64{99}, at, 3, 1, 100},
		{"behind holidays and a weekend", []int64{99, 100, 101, 102}, at, 3, 3, 105},
		{"behind holidays, a weekend and a full day", []int64{99, 100, 101, 102}, at, 3, 2, 106},
		{"moved once", nil, at, 7, 1, 106},
		{"moved once, behind a holiday", []int64{106}, at, 7, 1, 107},
		{"moved twice", nil, at, 9, 1, -1},
		{"moved twice, with much room", nil, at, 9, 20, -1},

		{"full days ahead", nil, full, 1, 1, 102},
		{"full days ahead, one with one call", nil, full, 1, 2, 99},
		{"full days ahead, from the second", nil, full, 2, 2, 102},
		{"full days ahead, from the second, with room", nil, full, 2, 3, 100},
		{"from a full day", nil, full, 5, 1, 102},
		{"over a weekend and a full day", []int64{102}, full, 7, 1, 106},
		{"over a weekend", []int64{102}, full, 7, 2, 105},
		{"19 others, for 19", nil, nineteen, 1, 19, 100},
		{"19 others, for 20", nil, nineteen, 1, 20, 99},
		{"one of 20, alone", nil, together, 20, 1, 99},
		{"one of 20, for 20", nil, together, 1, 20, 99},

		{"no room up to 180 days", nil, end, 9, 1, -1},
		{"room for two", nil, end, 9, 2, 273},
		{"over full days and a weekend", nil, end[:5:5], 1, 1, 280},
		{"only the 180th day is free", nil, append(slices.Clone(end[:5]), end[6]), 9, 1, 280},
		{"only the 180th day is free, a holiday", []int64{280}, append(slices.Clone(end[:5]), end[6]), 9, 1, -1},
		{"only holidays up to 180 days", []int64{273, 274, 275, 276, 277, 280}, end, 9, 20, -1},
		{"one holiday, and no room", []int64{276}, end, 9, 1, -1},

		{"near the last day, over a Sunday", nil, late, 1, 1, 19992},
		{"up to the last day", nil, late[:3], 2, 1, 20000},
		{"no room up to the last day", nil, late, 2, 1, -1},
		{"room for two on the last day but one", nil, late, 2, 2, 19999},
		{"room for two on the last day", []int64{19999}, late, 2, 2, 20000},
		{"no room on the last day", []int64{19999}, late, 2, 1, -1},
		{"only holidays up to the last day", []int64{19999, 20000}, late, 2, 20, -1},
		{"from the last day but one", nil, late, 3, 2, 20000},
		{"from the last day", nil, late, 4, 1, -1},
		{"from the last day, with much room", nil, late, 4, 20, -1},
		{"far from the first day", nil, far, 1, 20, -1},
		{"180 days from the first day", nil, far, 2, 20, -1},
		{"179 days from the first day, a Friday", nil, far, 3, 20, -1},
		{"177 days from the first day", nil, far, 4, 1, 178},
		{"177 days from the first day, over a holiday", []int64{178}, far, 4, 2, 179},
		{"177 days from the first day, over a holiday to a full day", []int64{178}, far, 4, 1, -1},
		{"176 days from the first day, moved twice", nil, far, 5, 1, -1},
	}
	for _, c := range cases {
		want, wantCode := c.want, int64(impl.ErrNone)
		if c.want < 0 {
			want, wantCode = 0, impl.ErrState
		}
		if got, code := impl.FirstRoom(c.holidays, c.list, c.number, c.room); got != want || code != wantCode {
			t.Errorf("%s: FirstRoom is %d, %d, want %d, %d", c.name, got, code, want, wantCode)
		}
	}
}

func TestCrowdedDays(t *testing.T) {
	list := []impl.Call{callFor(1, 105), callFor(2, 98), callFor(3, 112), callFor(4, 98), movedCall(5, 98, 105, 1), callFor(6, 98), callFor(7, 0), callFor(8, 20000), callFor(9, 103)}
	for _, c := range []struct {
		room int64
		want []int64
	}{
		{0, []int64{0, 98, 103, 105, 112, 20000}}, {1, []int64{98, 105}}, {2, []int64{98}}, {3, nil}, {4, nil}, {19, nil}, {20, nil},
	} {
		checkCrowded(t, "several", list, c.room, c.want)
	}
	together := callsForDays(1, 1, repeated[int64](20, 98))
	checkCrowded(t, "20 for one day", together, 0, []int64{98})
	checkCrowded(t, "20 for one day, with one less", together, 19, []int64{98})
	checkCrowded(t, "20 for one day, with as many", together, 20, nil)
	checkCrowded(t, "one", together[:1], 0, []int64{98})
	checkCrowded(t, "one, with room for it", together[:1], 1, nil)
	falling := reversedDays(callsForDays(1, 1, everyDay(98, 3, 20)))
	checkCrowded(t, "20 days", falling, 0, everyDay(98, 3, 20))
	checkCrowded(t, "20 days, with room", falling, 1, nil)
	pairs := []impl.Call{callFor(1, 112), callFor(2, 98), callFor(3, 105), callFor(4, 112), callFor(5, 105), callFor(6, 98)}
	checkCrowded(t, "days in no order", pairs, 1, []int64{98, 105, 112})
	checkCrowded(t, "nil", nil, 0, nil)
	checkCrowded(t, "none", []impl.Call{}, 20, nil)
}

func TestDropCall(t *testing.T) {
	list := []impl.Call{callFor(3, 98), movedCall(7, 100, 105, 1), callFor(9, 98), movedCall(11, 90, 98, 2)}
	for _, c := range []struct {
		name   string
		list   []impl.Call
		number int64
		want   []impl.Call
	}{
		{"the first", list, 3, []impl.Call{list[1], list[2], list[3]}},
		{"the second", list, 7, []impl.Call{list[0], list[2], list[3]}},
		{"the third", list, 9, []impl.Call{list[0], list[1], list[3]}},
		{"the last", list, 11, []impl.Call{list[0], list[1], list[2]}},
		{"the only one", list[:1], 3, nil},
		{"the least", []impl.Call{callFor(1, 0), callFor(1000000, 0)}, 1, []impl.Call{callFor(1000000, 0)}},
		{"the greatest", []impl.Call{callFor(1, 0), callFor(1000000, 0)}, 1000000, []impl.Call{callFor(1, 0)}},
		{"the last of 20", mixedCalls(20), 3 + 7*19, mixedCalls(19)},
		{"the first of 20", callsForDays(1, 1, repeated[int64](20, 98)), 1, callsForDays(2, 1, repeated[int64](19, 98))},
	} {
		if got, code := impl.DropCall(c.list, c.number); !slices.Equal(got, c.want) || code != impl.ErrNone {
			t.Errorf("%s: DropCall is %v, %d, want %v", c.name, got, code, c.want)
		}
	}
	if list[0] != callFor(3, 98) || list[3] != movedCall(11, 90, 98, 2) {
		t.Errorf("the calls have been changed: %v", list)
	}
}

func TestCallsOfAllLists(t *testing.T) {
	for name, list := range goodCalls() {
		days := append(notDays(), daysOfCalls(list)...)
		for _, holidays := range [][]int64{nil, {99, 105, 112, 277, 280}, {19998, 19999, 20000}} {
			checkCalls(t, name, holidays, list, callNumbers(list), days)
		}
	}
}

func TestCallsWithAllHolidays(t *testing.T) {
	lists := [][]impl.Call{
		{callFor(1, 0), callFor(2, 30), callFor(3, 69)}, {movedCall(1, 0, 20, 1), movedCall(2, 16, 30, 2)},
		{callFor(1, 699), movedCall(2, 550, 702, 1), callFor(3, 707)}, {callFor(1, 19900), movedCall(2, 19830, 19961, 1), callFor(3, 19999), callFor(4, 20000)},
	}
	for name, holidays := range calendars() {
		for _, list := range lists {
			checkCalls(t, name, holidays, list, []int64{1, 2, 3, 4, 5}, append(daysOfCalls(list), someDays()...))
		}
	}
}

// All moves of a call for each day of a week, once at each distance from the first day.
func TestMovesToAllDays(t *testing.T) {
	for _, first := range slices.Concat(everyDay(0, 1, 7), everyDay(98, 1, 7), everyDay(19815, 1, 10), everyDay(19994, 1, 7)) {
		for moves := int64(0); moves <= 2; moves++ {
			c := movedCall(5, first, min(first+moves*40, lastDay), moves)
			if moves > 0 && c.Day == first {
				continue
			}
			list := []impl.Call{callFor(3, first), c, movedCall(9, 90, 98, 2)}
			holidays := []int64{first + 1, first + 2}
			if first > lastDay-2 {
				holidays = nil
			}
			days := daysToMove(holidays, c)
			for day := max(first-10, 0); day <= min(first+200, lastDay); day++ {
				checkMove(t, "every day", holidays, list, 5, day, days)
			}
			checkRoom(t, "every day", holidays, list, 5, 1, days)
		}
	}
}

// randomCalls returns calls on few days, not all of them court days.
func randomCalls(g *rand.Rand, from, days int64) []impl.Call {
	var list []impl.Call
	number := int64(0)
	for range g.IntN(21) {
		number += 1 + g.Int64N(3)
		first := from + g.Int64N(days)
		c := callFor(number, first)
		if further := from + days - 1 - first; further > 0 && g.IntN(3) > 0 {
			c = movedCall(number, first, first+1+g.Int64N(further), 1+g.Int64N(2))
		}
		list = append(list, c)
	}
	return list
}

// randomHolidays returns up to 40 holidays on few days.
func randomHolidays(g *rand.Rand, from, days int64) []int64 {
	var holidays []int64
	for range g.IntN(41) {
		holidays = append(holidays, min(from+g.Int64N(days), lastDay))
	}
	slices.Sort(holidays)
	return slices.Compact(holidays)
}

func TestRandomCalls(t *testing.T) {
	g := rand.New(rand.NewPCG(1, 10))
	for i := range 300 {
		from, days := g.Int64N(19000), 1+g.Int64N(15)
		if i%3 == 0 {
			days += 180
		}
		if i%4 == 0 {
			from = lastDay + 1 - days
		}
		list := randomCalls(g, from, days)
		what := "random " + strconv.Itoa(i)
		checkCalls(t, what, randomHolidays(g, from, days+20), list, callNumbers(list), daysOfCalls(list))
	}
}

// One field of a right list is changed at random.
func TestRandomCallsWithFaults(t *testing.T) {
	g := rand.New(rand.NewPCG(2, 10))
	wrong := 0
	for range 20000 {
		list := randomCalls(g, 0, 30)
		if len(list) == 0 {
			continue
		}
		c := &list[g.IntN(len(list))]
		field := []*int64{&c.Number, &c.First, &c.Day, &c.Moves}[g.IntN(4)]
		*field += g.Int64N(9) - 4
		want := areRightCalls(list)
		if got := impl.AreCalls(list); got != want {
			t.Fatalf("AreCalls of %v is %t", list, got)
		}
		if !want {
			wrong++
		}
	}
	if wrong < 5000 || wrong > 18000 {
		t.Errorf("%d of the random lists are none", wrong)
	}
}

// checkWasMoved checks the promise P10 for a call that was moved in a list, and that nothing else
// has changed.
func checkWasMoved(t *testing.T, what string, holidays []int64, list, moved []impl.Call, number int64) {
	t.Helper()
	if len(moved) != len(list) || !impl.AreCalls(moved) {
		t.Fatalf("%s: %v has become %v", what, list, moved)
	}
	for i, c := range moved {
		before := list[i]
		if c.Number != number {
			if c != before {
				t.Fatalf("%s: %v has become %v", what, before, c)
			}
			continue
		}
		if court, code := impl.IsCourtDay(holidays, c.Day); !court || code != impl.ErrNone {
			t.Fatalf("%s: %v is for no court day: %v", what, c, holidays)
		}
		if c.First != before.First || c.Day <= before.Day || c.Day > c.First+180 || c.Moves != before.Moves+1 || c.Moves > 2 {
			t.Fatalf("%s: %v has become %v", what, before, c)
		}
	}
}

// The promise P10: a moved call is for a court day, and never more than MoveDays behind the first
// day; so is the day that FirstRoom returns.
func TestMovedCallsAreNear(t *testing.T) {
	moves := 0
	for name, list := range goodCalls() {
		for what, holidays := range map[string][]int64{"no holidays": nil, "40 workdays": workdaysFrom(99, 40), "40 workdays at the end": workdaysUpTo(lastDay, 40), "far apart": everyDay(105, 7, 40)} {
			what = name + ", " + what
			for _, c := range list {
				days := append(everyDay(c.First, 1, 200), c.Day+1, c.Day+7, c.Day+180, c.Day+181, lastDay)
				for _, day := range days {
					moved, code := impl.MoveCall(holidays, list, c.Number, day)
					if code == impl.ErrNone {
						checkWasMoved(t, what, holidays, list, moved, c.Number)
						moves++
					}
				}
				for _, room := range []int64{1, 2, 20} {
					day, code := impl.FirstRoom(holidays, list, c.Number, room)
					if code != impl.ErrNone {
						continue
					}
					called, _ := impl.CalledOn(list, day)
					moved, code := impl.MoveCall(holidays, list, c.Number, day)
					if code != impl.ErrNone || int64(len(called)) >= room {
						t.Fatalf("%s: FirstRoom of %d with %d is %d, with %v; MoveCall is %d", what, c.Number, room, day, called, code)
					}
					checkWasMoved(t, what, holidays, list, moved, c.Number)
				}
			}
		}
	}
	if moves < 1000 {
		t.Errorf("only %d calls were moved", moves)
	}
}

// Calls are added, moved and dropped in any order; wherever they began, they stay near their first days.
func TestCallsThatGoOn(t *testing.T) {
	g := rand.New(rand.NewPCG(3, 10))
	for i := range 60 {
		var list []impl.Call
		from := g.Int64N(19700)
		if i%4 == 0 {
			from = lastDay - 90
		}
		holidays := randomHolidays(g, from, 100)
		for range 150 {
			number := 1 + g.Int64N(30)
			day := min(from+g.Int64N(30+g.Int64N(250)), lastDay)
			c, _ := callWith(list, number)
			days := daysToMove(holidays, c)
			next := list
			switch g.IntN(8) {
			case 0, 1, 2:
				next = checkAddCall(t, "going on", holidays, list, number, day)
			case 3, 4:
				next = checkMove(t, "going on", holidays, list, number, day, days)
			case 5:
				room := 1 + g.Int64N(3)
				checkRoom(t, "going on", holidays, list, number, room, days)
				day, code := impl.FirstRoom(holidays, list, number, room)
				if code == impl.ErrNone {
					next = checkMove(t, "to the first room", holidays, list, number, day, days)
				}
			case 6:
				next = checkDrop(t, "going on", list, number)
			}
			if len(next) > 0 {
				list = next
			}
			checkNear(t, holidays, list)
		}
	}
}

// checkNear checks calls that were all made by AddCall and MoveCall.
func checkNear(t *testing.T, holidays []int64, list []impl.Call) {
	t.Helper()
	if !impl.AreCalls(list) {
		t.Fatalf("AreCalls of %v is false", list)
	}
	for _, c := range list {
		if !isOpen(holidays, c.Day) || !isOpen(holidays, c.First) || c.Day-c.First > 180 {
			t.Fatalf("%v is for no court day, or too far behind its first one: %v", c, holidays)
		}
	}
}

// callResult is what one of the functions returns: calls or numbers, a day or whether it may be, and a code.
type callResult struct {
	calls   []impl.Call
	numbers []int64
	day     int64
	may     bool
	code    int64
}

func (r callResult) isError(code int64) bool {
	return len(r.calls) == 0 && len(r.numbers) == 0 && r.day == 0 && !r.may && r.code == code
}

// callFunctions are the functions of the chapter; what they have no use for is left out.
func callFunctions() map[string]func(holidays []int64, list []impl.Call, number, day, room int64) callResult {
	return map[string]func(holidays []int64, list []impl.Call, number, day, room int64) callResult{
		"AddCall": func(holidays []int64, list []impl.Call, number, day, _ int64) (r callResult) {
			r.calls, r.code = impl.AddCall(holidays, list, number, day)
			return r
		},
		"MayMove": func(holidays []int64, list []impl.Call, number, day, _ int64) (r callResult) {
			r.may, r.code = impl.MayMove(holidays, list, number, day)
			return r
		},
		"MoveCall": func(holidays []int64, list []impl.Call, number, day, _ int64) (r callResult) {
			r.calls, r.code = impl.MoveCall(holidays, list, number, day)
			return r
		},
		"CalledOn": func(_ []int64, list []impl.Call, _, day, _ int64) (r callResult) {
			r.numbers, r.code = impl.CalledOn(list, day)
			return r
		},
		"FirstRoom": func(holidays []int64, list []impl.Call, number, _, room int64) (r callResult) {
			r.day, r.code = impl.FirstRoom(holidays, list, number, room)
			return r
		},
		"CrowdedDays": func(_ []int64, list []impl.Call, _, _, room int64) (r callResult) {
			r.numbers, r.code = impl.CrowdedDays(list, room)
			return r
		},
		"DropCall": func(_ []int64, list []impl.Call, number, _, _ int64) (r callResult) {
			r.calls, r.code = impl.DropCall(list, number)
			return r
		},
	}
}

func notRooms() []int64 {
	return []int64{-1, 21, 22, -20, 1000, math.MinInt64, math.MaxInt64}
}

// usesHolidays, usesDay, usesRoom and usesNumber tell which arguments a function has.
func usesHolidays(name string) bool {
	return slices.Contains([]string{"AddCall", "MayMove", "MoveCall", "FirstRoom"}, name)
}

func usesDay(name string) bool {
	return slices.Contains([]string{"AddCall", "MayMove", "MoveCall", "CalledOn"}, name)
}

func usesRoom(name string) bool {
	return name == "FirstRoom" || name == "CrowdedDays"
}

func looksForNumber(name string) bool {
	return slices.Contains([]string{"MayMove", "MoveCall", "FirstRoom", "DropCall"}, name)
}

// A wrong list or wrong holidays are ErrInvalid, whatever the other arguments are.
func TestInvalidCalls(t *testing.T) {
	some := []impl.Call{callFor(7, 98), movedCall(9, 90, 98, 2)}
	for what, call := range callFunctions() {
		for _, number := range []int64{7, 9, 8, 0, 1000001, math.MinInt64} {
			for _, day := range []int64{99, 98, 103, 0, -1, 20001, math.MaxInt64} {
				for _, room := range []int64{1, 0, 20, -1, 21} {
					for name, no := range badCalls() {
						if got := call(nil, no, number, day, room); !got.isError(impl.ErrInvalid) {
							t.Fatalf("%s: %s of %d, %d, %d is %v, want ErrInvalid", name, what, number, day, room, got)
						}
					}
					if !usesHolidays(what) {
						continue
					}
					for name, no := range noHolidays() {
						if got := call(no, some, number, day, room); !got.isError(impl.ErrInvalid) {
							t.Fatalf("%s: %s of %d, %d, %d is %v, want ErrInvalid", name, what, number, day, room, got)
						}
						if got := call(no, []impl.Call{{}}, number, day, room); !got.isError(impl.ErrInvalid) {
							t.Fatalf("%s: %s of no calls is %v, want ErrInvalid", name, what, got)
						}
						if got := call(no, nil, number, day, room); !got.isError(impl.ErrInvalid) {
							t.Fatalf("%s: %s of nil is %v, want ErrInvalid", name, what, got)
						}
					}
				}
			}
		}
	}
}

// A day or a room out of its range is ErrRange before a number that nobody has is ErrNotFound, and
// that is before ErrState.
func TestCallErrorOrder(t *testing.T) {
	some := []impl.Call{callFor(7, 98), movedCall(9, 90, 98, 2)}
	holidays := []int64{99}
	for _, list := range [][]impl.Call{nil, some, mixedCalls(20)} {
		for what, call := range callFunctions() {
			for _, number := range append(notNumbers(), 1, 3, 7, 8, 9, 1000000) {
				for _, day := range notDays() {
					if got := call(holidays, list, number, day, 1); usesDay(what) && !got.isError(impl.ErrRange) {
						t.Errorf("%s of %d on %d is %v, want ErrRange", what, number, day, got)
					}
				}
				for _, room := range notRooms() {
					if got := call(holidays, list, number, 98, room); usesRoom(what) && !got.isError(impl.ErrRange) {
						t.Errorf("%s of %d with %d is %v, want ErrRange", what, number, room, got)
					}
				}
				if _, there := callWith(list, number); there || !looksForNumber(what) {
					continue
				}
				for _, day := range []int64{0, 98, 99, 100, 103, 5000, 20000} {
					if got := call(holidays, list, number, day, 0); !got.isError(impl.ErrNotFound) {
						t.Errorf("%s of %d, %d is %v, want ErrNotFound", what, number, day, got)
					}
				}
			}
		}
		for _, number := range notNumbers() {
			for _, day := range append(notDays(), 98, 99, 103, 104) {
				if got, code := impl.AddCall(holidays, list, number, day); len(got) != 0 || code != impl.ErrRange {
					t.Errorf("AddCall of %d for %d is %v, %d, want ErrRange", number, day, got, code)
				}
			}
		}
	}
}

// spoilCalls overwrites a result up to its capacity.
func spoilCalls(list []impl.Call) {
	list = list[:cap(list)]
	for i := range list {
		list[i] = movedCall(-7, -7, -7, -7)
	}
}

// callsWithSpare returns a copy of a list with calls in the spare capacity behind it, and all of them.
func callsWithSpare(list []impl.Call) (part, whole []impl.Call) {
	whole = append(slices.Clone(list), callFor(1000000, 50), impl.Call{}, movedCall(12, 1, 2, 2))
	return whole[:len(list)], whole
}

// callResults calls all functions for numbers from the first to the last and some days.
func callResults(holidays []int64, list []impl.Call) []callResult {
	var results []callResult
	functions := callFunctions()
	for _, name := range slices.Sorted(maps.Keys(functions)) {
		for _, number := range callNumbers(list) {
			for _, day := range []int64{0, 98, 105, 106, 20000} {
				results = append(results, functions[name](holidays, list, number, day, day%3))
			}
		}
	}
	return results
}

func (r callResult) copied() callResult {
	r.calls, r.numbers = slices.Clone(r.calls), slices.Clone(r.numbers)
	return r
}

func (r callResult) equals(other callResult) bool {
	return slices.Equal(r.calls, other.calls) && slices.Equal(r.numbers, other.numbers) && r.day == other.day && r.may == other.may && r.code == other.code
}

func (r callResult) spoil() {
	spoilCalls(r.calls)
	spoil(r.numbers)
}

func TestResultsAreNew10(t *testing.T) {
	for name, list := range goodCalls() {
		part, whole := callsWithSpare(list)
		holidays, wholeHolidays := withSpare([]int64{101, 108, 19998})
		kept, keptHolidays := slices.Clone(whole), slices.Clone(wholeHolidays)
		results, again := callResults(holidays, part), callResults(holidays, part)
		for i, result := range results {
			keptResult := result.copied()
			again[i].spoil()
			if !result.equals(keptResult) {
				t.Errorf("%s: results of two calls share memory: %v", name, result)
			}
			result.spoil()
			if !slices.Equal(whole, kept) || !slices.Equal(wholeHolidays, keptHolidays) {
				t.Fatalf("%s: a result shares memory with an argument: %v, %v", name, whole, wholeHolidays)
			}
		}
	}
}

// What is returned for calls that were returned shares no memory with them.
func TestResultsOfResultsAreNew10(t *testing.T) {
	for name, list := range goodCalls() {
		for i, result := range callResults(nil, list) {
			// Every seventh result is enough, and takes less time than all.
			if i%7 > 0 || len(result.calls) == 0 {
				continue
			}
			kept := result.copied()
			for _, later := range callResults(nil, result.calls) {
				later.spoil()
			}
			if !result.equals(kept) {
				t.Fatalf("%s: a result shares memory with an argument: %v", name, result)
			}
		}
	}
}

func TestArgumentsAreKept10(t *testing.T) {
	lists := goodCalls()
	for name, list := range badCalls() {
		lists["no calls: "+name] = list
	}
	for name, list := range lists {
		part, whole := callsWithSpare(list)
		holidays, wholeHolidays := withSpare([]int64{101, 108, 19998})
		kept, keptHolidays := slices.Clone(whole), slices.Clone(wholeHolidays)
		impl.AreCalls(part)
		for _, call := range callFunctions() {
			for _, number := range []int64{0, 1, 2, 3, 7, 8, 10, 500, 1000000, 1000001} {
				for _, day := range []int64{-1, 0, 50, 98, 99, 105, 280, 20000, 20001} {
					for _, room := range []int64{-1, 0, 1, 20, 21} {
						call(holidays, part, number, day, room)
					}
					call(wholeHolidays, part, number, day, 1)
				}
			}
		}
		if !slices.Equal(whole, kept) || !slices.Equal(wholeHolidays, keptHolidays) {
			t.Errorf("%s: an argument was changed: %v, %v", name, whole, wholeHolidays)
		}
	}
}
