package tests

import (
	"math"
	"slices"
	"testing"

	"loop.example/g01027/impl"
)

const lastDay = 20000

// isOpen is an independent court day: from Monday to Friday, and no holiday.
func isOpen(holidays []int64, day int64) bool {
	for _, h := range holidays {
		if h == day {
			return false
		}
	}
	weekday := day % 7
	return weekday != 5 && weekday != 6
}

// workdaysFrom returns the first count days from Monday to Friday that are not before day.
func workdaysFrom(day int64, count int) []int64 {
	var days []int64
	for ; len(days) < count; day++ {
		if isOpen(nil, day) {
			days = append(days, day)
		}
	}
	return days
}

// workdaysUpTo returns the last count days from Monday to Friday that are not behind day.
func workdaysUpTo(day int64, count int) []int64 {
	var days []int64
	for ; len(days) < count; day-- {
		if isOpen(nil, day) {
			days = append(days, day)
		}
	}
	slices.Reverse(days)
	return days
}

// everyDay returns count days, beginning with from, each step behind the one before.
func everyDay(from, step int64, count int) []int64 {
	days := make([]int64, count)
	for i := range days {
		days[i] = from + int64(i)*step
	}
	return days
}

// calendars returns lists of holidays at both ends and in the middle, on all weekdays, up to 40.
func calendars() map[string][]int64 {
	return map[string][]int64{
		"none":                    nil,
		"an empty list":           {},
		"the first day":           {0},
		"the last day":            {lastDay},
		"both ends":               {0, 1, lastDay - 1, lastDay},
		"a Saturday and a Sunday": {12, 13},
		"around a weekend":        {11, 12, 13, 14},
		"a whole week":            everyDay(700, 1, 7),
		"40 days in a row":        everyDay(30, 1, 40),
		"40 days at the end":      everyDay(lastDay-39, 1, 40),
		"40 workdays from day 0":  workdaysFrom(0, 40),
		"40 workdays at the end":  workdaysUpTo(lastDay, 40),
		"40 Mondays":              everyDay(14, 7, 40),
		"40 Sundays":              everyDay(6, 7, 40),
		"40 days far apart":       everyDay(17, 501, 40),
	}
}

// someDays returns days at both ends and on all weekdays in between.
func someDays() []int64 {
	days := everyDay(0, 1, 64)
	days = append(days, everyDay(690, 1, 25)...)
	days = append(days, everyDay(2000, 997, 18)...)
	return append(days, everyDay(lastDay-63, 1, 64)...)
}

func TestConstants2(t *testing.T) {
	if impl.MaxDay != 20000 || impl.MaxHolidays != 40 {
		t.Errorf("constants are %d and %d, want 20000 and 40", impl.MaxDay, impl.MaxHolidays)
	}
}

func TestAreHolidays(t *testing.T) {
	for name, holidays := range calendars() {
		if !impl.AreHolidays(holidays) {
			t.Errorf("AreHolidays is false for %s", name)
		}
	}
	for name, list := range noHolidays() {
		if impl.AreHolidays(list) {
			t.Errorf("AreHolidays is true for %s", name)
		}
	}
}

// noHolidays returns lists that are no holidays.
func noHolidays() map[string][]int64 {
	return map[string][]int64{
		"a day before the first":      {-1},
		"a day behind the last":       {lastDay + 1},
		"one too small before others": {-1, 0, 1},
		"one too great behind others": {0, lastDay, lastDay + 1},
		"the least number":            {math.MinInt64},
		"the greatest number":         {0, math.MaxInt64},
		"a day twice":                 {100, 100},
		"day 0 twice":                 {0, 0},
		"a decrease":                  {100, 99},
		"a decrease at the end":       {1, 2, 4, 3},
		"a day twice at the end":      {1, 2, 4, 4},
		"41 days":                     everyDay(30, 1, 41),
		"41 days far apart":           everyDay(0, 500, 41),
		"1000 days":                   everyDay(0, 1, 1000),
	}
}

func TestIsCourtDay(t *testing.T) {
	for name, holidays := range calendars() {
		for day := int64(0); day <= lastDay; day++ {
			got, code := impl.IsCourtDay(holidays, day)
			if code != impl.ErrNone || got != isOpen(holidays, day) {
				t.Fatalf("%s: IsCourtDay of %d is %v, %d", name, day, got, code)
			}
		}
	}
	week := []bool{true, true, true, true, true, false, false, true}
	for day, want := range week {
		if got, _ := impl.IsCourtDay(nil, int64(day)); got != want {
			t.Errorf("IsCourtDay of %d is %v, day 0 being a Monday", day, got)
		}
	}
}

// checkDay compares a day and a code with the wanted day, which is too late if it is no day.
func checkDay(t *testing.T, what string, got, code, want int64) {
	t.Helper()
	wantCode := int64(impl.ErrNone)
	if want > lastDay {
		want, wantCode = 0, impl.ErrLimit
	}
	if got != want || code != wantCode {
		t.Fatalf("%s is %d, %d, want %d, %d", what, got, code, want, wantCode)
	}
}

// firstOpen returns the first court day that is not before a day, perhaps one behind the last day.
func firstOpen(holidays []int64, day int64) int64 {
	for !isOpen(holidays, day) {
		day++
	}
	return day
}

func TestNextCourtDay(t *testing.T) {
	for name, holidays := range calendars() {
		for day := int64(0); day <= lastDay; day++ {
			got, code := impl.NextCourtDay(holidays, day)
			checkDay(t, "NextCourtDay with "+name, got, code, firstOpen(holidays, day))
		}
	}
	atEnd := workdaysUpTo(lastDay, 40)
	cases := []struct {
		name           string
		holidays       []int64
		day, next, err int64
	}{
		{"itself", nil, 4, 4, impl.ErrNone},
		{"Saturday", nil, 5, 7, impl.ErrNone},
		{"Sunday", nil, 6, 7, impl.ErrNone},
		{"holiday", []int64{100}, 100, 101, impl.ErrNone},
		{"Friday and Monday off", []int64{4, 7}, 4, 8, impl.ErrNone},
		{"first 40 workdays off", workdaysFrom(0, 40), 0, 56, impl.ErrNone},
		{"last day", nil, 20000, 20000, impl.ErrNone},
		{"last day off", []int64{20000}, 20000, 0, impl.ErrLimit},
		{"day before the last one", []int64{20000}, 19999, 19999, impl.ErrNone},
		{"last 40 workdays off", atEnd, atEnd[0], 0, impl.ErrLimit},
		{"before the last 40 workdays", atEnd, atEnd[0] - 1, atEnd[0] - 1, impl.ErrNone},
	}
	for _, c := range cases {
		if got, code := impl.NextCourtDay(c.holidays, c.day); got != c.next || code != c.err {
			t.Errorf("%s: NextCourtDay is %d, %d, want %d, %d", c.name, got, code, c.next, c.err)
		}
	}
}

func TestAddCourtDays(t *testing.T) {
	for name, holidays := range calendars() {
		for _, day := range someDays() {
			want := day
			for n := int64(0); n <= 400; n++ {
				got, code := impl.AddCourtDays(holidays, day, n)
				checkDay(t, "AddCourtDays with "+name, got, code, want)
				want = firstOpen(holidays, want+1)
			}
		}
	}
	cases := []struct {
		name                string
		holidays            []int64
		day, n, result, err int64
	}{
		{"none from a court day", nil, 3, 0, 3, impl.ErrNone},
		{"none from a Saturday", nil, 5, 0, 5, impl.ErrNone},
		{"none from a holiday", []int64{100}, 100, 0, 100, impl.ErrNone},
		{"none from the last day off", []int64{20000}, 20000, 0, 20000, impl.ErrNone},
		{"one from a Saturday", nil, 5, 1, 7, impl.ErrNone},
		{"one from a Friday", nil, 4, 1, 7, impl.ErrNone},
		{"one from a holiday", []int64{100}, 100, 1, 101, impl.ErrNone},
		{"400", nil, 0, 400, 560, impl.ErrNone},
		{"401", nil, 0, 401, 0, impl.ErrRange},
		{"-1", nil, 10, -1, 0, impl.ErrRange},
		{"least number", nil, 10, math.MinInt64, 0, impl.ErrRange},
		{"greatest number", nil, 10, math.MaxInt64, 0, impl.ErrRange},
		{"up to the last day", nil, 19999, 1, 20000, impl.ErrNone},
		{"400 up to the last day", nil, 19440, 400, 20000, impl.ErrNone},
		{"400 and one day more", nil, 19441, 400, 0, impl.ErrLimit},
		{"behind the last day", nil, 20000, 1, 0, impl.ErrLimit},
		{"behind the last day, which is off", []int64{20000}, 19999, 1, 0, impl.ErrLimit},
		{"401 behind the last day", nil, 20000, 401, 0, impl.ErrRange},
	}
	for _, c := range cases {
		if got, code := impl.AddCourtDays(c.holidays, c.day, c.n); got != c.result || code != c.err {
			t.Errorf("%s: AddCourtDays is %d, %d, want %d, %d", c.name, got, code, c.result, c.err)
		}
	}
}

func TestCountCourtDays(t *testing.T) {
	days := someDays()
	for name, holidays := range calendars() {
		before := make([]int64, lastDay+1)
		for day := range before[1:] {
			before[day+1] = before[day]
			if isOpen(holidays, int64(day)) {
				before[day+1]++
			}
		}
		for _, from := range days {
			for _, to := range days {
				want := max(before[to]-before[from], 0)
				got, code := impl.CountCourtDays(holidays, from, to)
				if got != want || code != impl.ErrNone {
					t.Fatalf("%s: CountCourtDays of %d, %d is %d, %d, want %d", name, from, to, got, code, want)
				}
			}
		}
	}
	cases := []struct {
		name           string
		holidays       []int64
		from, to, want int64
	}{
		{"a week", nil, 0, 7, 5},
		{"the end is left out", nil, 0, 1, 1},
		{"the beginning is counted", nil, 4, 7, 1},
		{"same day", nil, 3, 3, 0},
		{"to before from", nil, 14, 0, 0},
		{"last day to first day", nil, 20000, 0, 0},
		{"a weekend", nil, 5, 7, 0},
		{"a holiday", []int64{100}, 98, 105, 4},
		{"a holiday at the end", []int64{100}, 98, 100, 2},
		{"a holiday on a Saturday", []int64{5}, 0, 7, 5},
		{"a holiday on a Sunday", []int64{6}, 0, 7, 5},
		{"all days but the last one", nil, 0, 20000, 14286},
	}
	for _, c := range cases {
		if got, code := impl.CountCourtDays(c.holidays, c.from, c.to); got != c.want || code != impl.ErrNone {
			t.Errorf("%s: CountCourtDays is %d, %d, want %d", c.name, got, code, c.want)
		}
	}
}

func TestDeadlineOf(t *testing.T) {
	for name, holidays := range calendars() {
		for _, day := range someDays() {
			for later := int64(0); later <= 1000; later++ {
				got, code := impl.DeadlineOf(holidays, day, later)
				checkDay(t, "DeadlineOf with "+name, got, code, firstOpen(holidays, day+later))
			}
		}
	}
	cases := []struct {
		name                   string
		holidays               []int64
		day, days, result, err int64
	}{
		{"none later", nil, 3, 0, 3, impl.ErrNone},
		{"none later than a Sunday", nil, 6, 0, 7, impl.ErrNone},
		{"one later than a Friday", nil, 4, 1, 7, impl.ErrNone},
		{"a holiday", []int64{100}, 98, 2, 101, impl.ErrNone},
		{"holidays before it do not count", []int64{99, 100}, 98, 3, 101, impl.ErrNone},
		{"1000 later", nil, 0, 1000, 1001, impl.ErrNone},
		{"1001 later", nil, 0, 1001, 0, impl.ErrRange},
		{"-1 later", nil, 10, -1, 0, impl.ErrRange},
		{"least number", nil, 10, math.MinInt64, 0, impl.ErrRange},
		{"greatest number", nil, 10, math.MaxInt64, 0, impl.ErrRange},
		{"1000 later, the last day", nil, 19000, 1000, 20000, impl.ErrNone},
		{"1000 later, the last day, off", []int64{20000}, 19000, 1000, 0, impl.ErrLimit},
		{"1000 later, behind the last day", nil, 19001, 1000, 0, impl.ErrLimit},
		{"1000 later than the last day", nil, 20000, 1000, 0, impl.ErrLimit},
		{"1001 later than the last day", nil, 20000, 1001, 0, impl.ErrRange},
	}
	for _, c := range cases {
		if got, code := impl.DeadlineOf(c.holidays, c.day, c.days); got != c.result || code != c.err {
			t.Errorf("%s: DeadlineOf is %d, %d, want %d, %d", c.name, got, code, c.result, c.err)
		}
	}
}

func TestLastCourtDay(t *testing.T) {
	for name, holidays := range calendars() {
		want, wantCode := int64(0), int64(impl.ErrNotFound)
		for day := int64(0); day <= lastDay; day++ {
			if isOpen(holidays, day) {
				want, wantCode = day, impl.ErrNone
			}
			got, code := impl.LastCourtDay(holidays, day)
			if got != want || code != wantCode {
				t.Fatalf("%s: LastCourtDay of %d is %d, %d, want %d, %d", name, day, got, code, want, wantCode)
			}
		}
	}
	cases := []struct {
		name           string
		holidays       []int64
		day, want, err int64
	}{
		{"itself", nil, 4, 4, impl.ErrNone},
		{"day 0", nil, 0, 0, impl.ErrNone},
		{"Sunday", nil, 6, 4, impl.ErrNone},
		{"holiday", []int64{100}, 100, 99, impl.ErrNone},
		{"day 0 off", []int64{0}, 0, 0, impl.ErrNotFound},
		{"behind day 0 off", []int64{0}, 1, 1, impl.ErrNone},
		{"first week off", everyDay(0, 1, 5), 6, 0, impl.ErrNotFound},
		{"first week off, day 7", everyDay(0, 1, 5), 7, 7, impl.ErrNone},
		{"first 40 workdays off", workdaysFrom(0, 40), 55, 0, impl.ErrNotFound},
		{"first 40 workdays off, day 56", workdaysFrom(0, 40), 56, 56, impl.ErrNone},
		{"last day", nil, 20000, 20000, impl.ErrNone},
		{"last two days off", []int64{19999, 20000}, 20000, 19996, impl.ErrNone},
	}
	for _, c := range cases {
		if got, code := impl.LastCourtDay(c.holidays, c.day); got != c.want || code != c.err {
			t.Errorf("%s: LastCourtDay is %d, %d, want %d, %d", c.name, got, code, c.want, c.err)
		}
	}
}

// longestClosed returns the first longest run of days that are no court days, trying every start.
func longestClosed(holidays []int64, from, to int64) (int64, int64) {
	first, longest := int64(0), int64(0)
	for start := from; start <= to; start++ {
		end := start
		for end <= to && !isOpen(holidays, end) {
			end++
		}
		if end-start > longest {
			first, longest = start, end-start
		}
	}
	return first, longest
}

func TestLongestBreak(t *testing.T) {
	for name, holidays := range calendars() {
		for _, from := range someDays() {
			for _, days := range []int64{1, 2, 3, 5, 7, 8, 20, 45, 60, 999, 1000} {
				to := from + days - 1
				if to > lastDay {
					continue
				}
				wantFirst, wantLength := longestClosed(holidays, from, to)
				wantCode := int64(impl.ErrNone)
				if wantLength == 0 {
					wantCode = impl.ErrNotFound
				}
				first, length, code := impl.LongestBreak(holidays, from, to)
				if first != wantFirst || length != wantLength || code != wantCode {
					t.Fatalf("%s: LongestBreak of %d, %d is %d, %d, %d, want %d, %d, %d", name, from, to, first, length, code, wantFirst, wantLength, wantCode)
				}
			}
		}
	}
}

func TestLongestBreakEdges(t *testing.T) {
	cases := []struct {
		name                         string
		holidays                     []int64
		from, to, first, length, err int64
	}{
		{"weekend behind a holiday", []int64{100}, 98, 104, 103, 2, impl.ErrNone},
		{"first one of several weekends", nil, 0, 30, 5, 2, impl.ErrNone},
		{"first one of several holidays", []int64{1, 3}, 0, 4, 1, 1, impl.ErrNone},
		{"a later one that is longer", []int64{14}, 0, 20, 12, 3, impl.ErrNone},
		{"an earlier one that is longer", []int64{4}, 0, 20, 4, 3, impl.ErrNone},
		{"cut off at the beginning", nil, 6, 11, 6, 1, impl.ErrNone},
		{"cut off at the end", nil, 7, 12, 12, 1, impl.ErrNone},
		{"cut off on both sides", everyDay(30, 1, 10), 33, 36, 33, 4, impl.ErrNone},
		{"cut off, so that another one is longer", nil, 6, 13, 12, 2, impl.ErrNone},
		{"one day off", nil, 5, 5, 5, 1, impl.ErrNone},
		{"one court day", nil, 4, 4, 0, 0, impl.ErrNotFound},
		{"only court days", nil, 7, 11, 0, 0, impl.ErrNotFound},
		{"only court days, to the last day", nil, 19999, 20000, 0, 0, impl.ErrNotFound},
		{"only days off", nil, 5, 6, 5, 2, impl.ErrNone},
		{"40 workdays off", workdaysFrom(0, 40), 0, 999, 0, 56, impl.ErrNone},
		{"holidays on a weekend", []int64{5, 6}, 0, 13, 5, 2, impl.ErrNone},
		{"up to the last day", []int64{20000}, 19999, 20000, 20000, 1, impl.ErrNone},
		{"1000 days", nil, 0, 999, 5, 2, impl.ErrNone},
		{"1001 days", nil, 0, 1000, 0, 0, impl.ErrRange},
		{"last 1000 days", nil, 19001, 20000, 19003, 2, impl.ErrNone},
		{"last 1001 days", nil, 19000, 20000, 0, 0, impl.ErrRange},
		{"all days", nil, 0, 20000, 0, 0, impl.ErrRange},
		{"to before from", nil, 6, 5, 0, 0, impl.ErrRange},
		{"to long before from", nil, 20000, 0, 0, 0, impl.ErrRange},
	}
	for _, c := range cases {
		first, length, code := impl.LongestBreak(c.holidays, c.from, c.to)
		if first != c.first || length != c.length || code != c.err {
			t.Errorf("%s: LongestBreak is %d, %d, %d, want %d, %d, %d", c.name, first, length, code, c.first, c.length, c.err)
		}
	}
}

// dayCalls returns the chapter's functions, each of which takes holidays and one day.
func dayCalls() map[string]func(holidays []int64, day int64) (int64, int64) {
	return map[string]func(holidays []int64, day int64) (int64, int64){
		"IsCourtDay": func(h []int64, day int64) (int64, int64) {
			is, code := impl.IsCourtDay(h, day)
			if is {
				return 1, code
			}
			return 0, code
		},
		"NextCourtDay":          impl.NextCourtDay,
		"AddCourtDays":          func(h []int64, day int64) (int64, int64) { return impl.AddCourtDays(h, day, 0) },
		"CountCourtDays, first": func(h []int64, day int64) (int64, int64) { return impl.CountCourtDays(h, day, lastDay) },
		"CountCourtDays, last":  func(h []int64, day int64) (int64, int64) { return impl.CountCourtDays(h, 0, day) },
		"DeadlineOf":            func(h []int64, day int64) (int64, int64) { return impl.DeadlineOf(h, day, 0) },
		"LastCourtDay":          impl.LastCourtDay,
		"LongestBreak": func(h []int64, day int64) (int64, int64) {
			first, length, code := impl.LongestBreak(h, day, day)
			return first + length, code
		},
		"LongestBreak, first": func(h []int64, day int64) (int64, int64) {
			first, length, code := impl.LongestBreak(h, day, 20)
			return first + length, code
		},
		"LongestBreak, last": func(h []int64, day int64) (int64, int64) {
			first, length, code := impl.LongestBreak(h, lastDay-20, day)
			return first + length, code
		},
	}
}

// ErrInvalid for holidays comes first, then ErrRange for a day; the other results are zero.
func TestDayErrors(t *testing.T) {
	days := []int64{-1, lastDay + 1, -7, lastDay + 8, math.MinInt64, math.MinInt64 + 1, math.MaxInt64 - 1, math.MaxInt64}
	for call, f := range dayCalls() {
		for _, day := range days {
			if got, code := f([]int64{100}, day); got != 0 || code != impl.ErrRange {
				t.Errorf("%s with day %d is %d, %d, want ErrRange", call, day, got, code)
			}
		}
		for name, list := range noHolidays() {
			for _, day := range append([]int64{0, 3, 5, lastDay}, days...) {
				if got, code := f(list, day); got != 0 || code != impl.ErrInvalid {
					t.Errorf("%s with %s and day %d is %d, %d, want ErrInvalid", call, name, day, got, code)
				}
			}
		}
	}
}

// ErrInvalid, ErrRange, then ErrLimit or ErrNotFound, where several of them hold.
func TestDayErrorOrder(t *testing.T) {
	bad, off := []int64{5, 5}, []int64{20000}
	cases := []struct {
		name string
		got  func() (int64, int64)
		want int64
	}{
		{"AddCourtDays: holidays before n", func() (int64, int64) { return impl.AddCourtDays(bad, 0, 401) }, impl.ErrInvalid},
		{"AddCourtDays: holidays before limit", func() (int64, int64) { return impl.AddCourtDays(bad, lastDay, 1) }, impl.ErrInvalid},
		{"AddCourtDays: day and n", func() (int64, int64) { return impl.AddCourtDays(nil, lastDay+1, -1) }, impl.ErrRange},
		{"AddCourtDays: day before limit", func() (int64, int64) { return impl.AddCourtDays(nil, lastDay+1, 0) }, impl.ErrRange},
		{"AddCourtDays: n before limit", func() (int64, int64) { return impl.AddCourtDays(off, lastDay, 401) }, impl.ErrRange},
		{"DeadlineOf: holidays before days", func() (int64, int64) { return impl.DeadlineOf(bad, 0, 1001) }, impl.ErrInvalid},
		{"DeadlineOf: holidays before limit", func() (int64, int64) { return impl.DeadlineOf(bad, lastDay, 1) }, impl.ErrInvalid},
		{"DeadlineOf: day before limit", func() (int64, int64) { return impl.DeadlineOf(nil, lastDay+1, 0) }, impl.ErrRange},
		{"DeadlineOf: days before limit", func() (int64, int64) { return impl.DeadlineOf(off, lastDay, 1001) }, impl.ErrRange},
		{"DeadlineOf: days cannot make up for the day", func() (int64, int64) { return impl.DeadlineOf(nil, -1, 1) }, impl.ErrRange},
		{"DeadlineOf: a sum that wraps around", func() (int64, int64) { return impl.DeadlineOf(nil, math.MaxInt64, math.MaxInt64) }, impl.ErrRange},
		{"NextCourtDay: holidays before limit", func() (int64, int64) { return impl.NextCourtDay([]int64{lastDay, lastDay}, lastDay) }, impl.ErrInvalid},
		{"LastCourtDay: holidays before none", func() (int64, int64) { return impl.LastCourtDay([]int64{0, 0}, 0) }, impl.ErrInvalid},
		{"CountCourtDays: both days", func() (int64, int64) { return impl.CountCourtDays(nil, lastDay+1, -1) }, impl.ErrRange},
		{"CountCourtDays: to is none, though not later", func() (int64, int64) { return impl.CountCourtDays(nil, 0, -1) }, impl.ErrRange},
		{"CountCourtDays: from is none, though not earlier", func() (int64, int64) { return impl.CountCourtDays(nil, lastDay+1, 0) }, impl.ErrRange},
	}
	for _, c := range cases {
		if got, code := c.got(); got != 0 || code != c.want {
			t.Errorf("%s: %d, %d, want %d", c.name, got, code, c.want)
		}
	}
	breaks := []struct {
		name           string
		holidays       []int64
		from, to, want int64
	}{
		{"holidays before to and from", bad, 6, 5, impl.ErrInvalid},
		{"holidays before the number of days", bad, 0, 1000, impl.ErrInvalid},
		{"holidays before none", bad, 7, 8, impl.ErrInvalid},
		{"to before from, though both are court days", nil, 8, 7, impl.ErrRange},
		{"a difference that wraps around", nil, math.MinInt64, math.MaxInt64, impl.ErrRange},
	}
	for _, c := range breaks {
		if first, length, code := impl.LongestBreak(c.holidays, c.from, c.to); first != 0 || length != 0 || code != c.want {
			t.Errorf("LongestBreak: %s: %d, %d, %d, want %d", c.name, first, length, code, c.want)
		}
	}
}

// Promise 2: a deadline is a court day, not too early, and no court day before it would do.
func TestDeadlineIsCourtDay(t *testing.T) {
	for name, holidays := range calendars() {
		for _, day := range someDays() {
			for later := int64(0); later <= 1000; later += 13 {
				deadline, code := impl.DeadlineOf(holidays, day, later)
				if code == impl.ErrLimit {
					// Then no court day is left from there on.
					if first := firstOpen(holidays, day+later); first <= lastDay {
						t.Fatalf("%s: no deadline %d days behind %d, though %d is a court day", name, later, day, first)
					}
					continue
				}
				is, isCode := impl.IsCourtDay(holidays, deadline)
				if code != impl.ErrNone || isCode != impl.ErrNone || !is || deadline < day+later {
					t.Fatalf("%s: the deadline %d days behind %d is %d, %d", name, later, day, deadline, code)
				}
				if count, _ := impl.CountCourtDays(holidays, day+later, deadline); count != 0 {
					t.Fatalf("%s: %d court days are before the deadline %d days behind %d", name, count, later, day)
				}
			}
		}
	}
}

// Promise 2: behind a day and up to the n-th court day behind it there are n court days.
func TestCountingAgreesWithAdding(t *testing.T) {
	for name, holidays := range calendars() {
		for _, day := range someDays() {
			itself, _ := impl.CountCourtDays(holidays, day, min(day+1, lastDay))
			for n := int64(1); n <= 400; n++ {
				end, code := impl.AddCourtDays(holidays, day, n)
				if code != impl.ErrNone {
					if left, _ := impl.CountCourtDays(holidays, day, lastDay); code != impl.ErrLimit || left-itself >= n {
						t.Fatalf("%s: AddCourtDays of %d, %d is %d, though %d court days are left", name, day, n, code, left)
					}
					break
				}
				count, _ := impl.CountCourtDays(holidays, day, end)
				if is, _ := impl.IsCourtDay(holidays, end); !is || count != itself+n-1 {
					t.Fatalf("%s: %d court days are counted from %d to %d, the %d-th one behind it", name, count, day, end, n)
				}
			}
		}
	}
}

// No function changes an argument or the spare capacity behind it.
func TestArgumentsAreKept2(t *testing.T) {
	list := []int64{4, 7, 12, 99}
	want := slices.Clone(list)
	impl.AreHolidays(list[:3])
	for _, f := range dayCalls() {
		f(list[:3], 4)
		f(list[:3], lastDay)
	}
	impl.AddCourtDays(list[:3], 0, 30)
	impl.CountCourtDays(list[:3], 0, 30)
	impl.DeadlineOf(list[:3], 0, 30)
	impl.LongestBreak(list[:3], 0, 30)
	unsorted := []int64{7, 4}
	impl.AreHolidays(unsorted)
	impl.NextCourtDay(unsorted, 0)
	if !slices.Equal(list, want) || !slices.Equal(unsorted, []int64{7, 4}) {
		t.Error("an argument was changed:", list, unsorted)
	}
}
