package tests

import (
	"maps"
	"math"
	"math/rand/v2"
	"slices"
	"strconv"
	"testing"

	"loop.example/g01027/impl"
)

// sent returns a summons without an answer.
func sent(number, day, due int64) impl.Summons {
	return impl.Summons{Number: number, Sent: day, Due: due}
}

// answered returns a summons that was answered on a day.
func answered(number, day, due, answer, on int64) impl.Summons {
	return impl.Summons{Number: number, Sent: day, Due: due, Answer: answer, Answered: on}
}

// summonsesTo returns count summonses with the numbers first, first + step and so on, all as one.
func summonsesTo(count int, first, step int64, one impl.Summons) []impl.Summons {
	list := repeated(count, one)
	for i := range list {
		list[i].Number = first + int64(i)*step
	}
	return list
}

// mixedSummonses returns count summonses of several days, of which every fourth has no answer.
func mixedSummonses(count int) []impl.Summons {
	list := summonsesTo(count, 3, 7, impl.Summons{})
	for i := range list {
		n := int64(i)
		list[i].Sent = 900 + n*11%37
		list[i].Due = list[i].Sent + n*5%12
		if n%4 > 0 {
			list[i].Answer, list[i].Answered = n%4, list[i].Sent+n*7%53
		}
	}
	return list
}

// goodSingles returns summonses, among them each value of a field at its limits.
func goodSingles() map[string]impl.Summons {
	singles := map[string]impl.Summons{
		"open":           sent(7, 100, 104),
		"the least":      sent(1, 100, 104),
		"the second":     sent(2, 100, 104),
		"the greatest":   sent(1000000, 100, 104),
		"the last but 1": sent(999999, 100, 104),

		"due when sent":                sent(7, 100, 100),
		"due a day later":              sent(7, 100, 101),
		"all on day 0":                 sent(7, 0, 0),
		"sent on day 0":                sent(7, 0, 9),
		"all days":                     sent(7, 0, 20000),
		"due on the last day":          sent(7, 19990, 20000),
		"all on the last day":          sent(7, 20000, 20000),
		"sent on the last day but one": sent(7, 19999, 19999),

		"answered on day 0":                 answered(7, 0, 0, 1, 0),
		"answered on the last day":          answered(7, 20000, 20000, 3, 20000),
		"sent at first, answered at last":   answered(7, 0, 9, 2, 20000),
		"answered on the last day but one":  answered(7, 0, 9, 2, 19999),
		"answered on the first reminder":    answered(7, 100, 104, 2, 105),
		"answered before the second one":    answered(7, 100, 104, 1, 118),
		"answered on the second one":        answered(7, 100, 104, 1, 119),
		"answered behind the second one":    answered(7, 100, 104, 1, 120),
		"answered on the third one":         answered(7, 100, 104, 3, 133),
		"answered behind the third one":     answered(7, 100, 104, 3, 134),
		"answered where a fourth might be":  answered(7, 100, 104, 3, 147),
		"answered behind a possible fourth": answered(7, 100, 104, 3, 148),
		"one that is due when it is sent":   answered(7, 100, 100, 2, 101),
	}
	for answer := int64(1); answer <= 3; answer++ {
		name := "answer " + strconv.Itoa(int(answer))
		singles[name+" when sent"] = answered(7, 100, 104, answer, 100)
		singles[name+" a day later"] = answered(7, 100, 104, answer, 101)
		singles[name+" before the day due"] = answered(7, 100, 104, answer, 103)
		singles[name+" on the day due"] = answered(7, 100, 104, answer, 104)
		singles[name+" behind it"] = answered(7, 100, 104, answer, 106)
		singles[name+" late"] = answered(7, 100, 104, answer, 5000)
	}
	// The first, the second and the third reminder around the last day.
	for _, behind := range []int64{1, 15, 29} {
		for off := int64(-2); off <= 2; off++ {
			due := min(lastDay-behind+off, lastDay)
			singles["reminded at last, due on "+strconv.Itoa(int(due))] = sent(7, 19900, due)
		}
	}
	return singles
}

// goodSummonses returns lists of summonses.
func goodSummonses() map[string][]impl.Summons {
	lists := map[string][]impl.Summons{
		"nil": nil, "none": {},
		"neighbours":                {sent(7, 100, 104), sent(8, 100, 104)},
		"the ends":                  {sent(1, 100, 104), sent(1000000, 90, 101)},
		"days falling":              {sent(1, 300, 310), sent(2, 200, 210), sent(3, 100, 110), sent(4, 0, 10)},
		"one reminder each":         {sent(1, 100, 104), sent(2, 100, 118), sent(3, 100, 132), sent(4, 100, 146)},
		"reminders in turn":         {sent(1, 100, 109), sent(2, 100, 104), sent(3, 100, 111), sent(4, 90, 99)},
		"all answers on one day":    {sent(1, 100, 104), answered(2, 100, 104, 1, 102), answered(3, 100, 104, 2, 102), answered(4, 100, 104, 3, 102)},
		"all answers, falling":      {answered(1, 100, 104, 3, 106), answered(2, 100, 104, 2, 105), answered(3, 100, 104, 1, 104), sent(4, 100, 104)},
		"only answered":             {answered(1, 100, 104, 1, 106), answered(2, 100, 104, 2, 140), answered(3, 100, 104, 3, 104)},
		"one of three not answered": {answered(1, 100, 104, 1, 106), sent(2, 300, 309), answered(3, 200, 204, 3, 204)},
		"sent one behind another":   {sent(1, 100, 104), sent(2, 101, 104), sent(3, 102, 104), sent(4, 103, 104), sent(5, 104, 104), sent(6, 105, 105)},
		"one early, one at the end": {sent(1, 0, 0), sent(2, 19900, 19990)},
		"one over, one at the end":  {sent(1, 100, 104), answered(2, 19900, 19950, 1, 19960), sent(3, 19980, 19999)},

		"19, mixed":           mixedSummonses(19),
		"20, mixed":           mixedSummonses(20),
		"20, open":            summonsesTo(20, 1, 1, sent(1, 100, 104)),
		"20, on day 0":        summonsesTo(20, 5, 1, sent(1, 0, 0)),
		"20, on the last day": summonsesTo(20, 5, 1, answered(1, 20000, 20000, 2, 20000)),
		"20, up to the last":  summonsesTo(20, 999981, 1, answered(1, 100, 104, 1, 103)),
		"20, far apart":       summonsesTo(20, 1, 52631, answered(1, 100, 104, 3, 110)),
	}
	for name, one := range goodSingles() {
		lists["one, "+name] = []impl.Summons{one}
		lists["several, "+name] = withOne(one)
	}
	return lists
}

// withOne returns a list in which a summons stands between others, or at the end where its number is.
func withOne(one impl.Summons) []impl.Summons {
	list := []impl.Summons{sent(4, 103, 110), answered(5, 90, 95, 2, 97), one, answered(11, 60, 70, 3, 60), sent(12, 105, 105)}
	slices.SortFunc(list, func(a, b impl.Summons) int { return int(a.Number - b.Number) })
	return list
}

// noSummonses returns what is no single summons for one fault, and the zero value.
func noSummonses() map[string]impl.Summons {
	none := map[string]impl.Summons{
		"zero":     {},
		"number 0": sent(0, 100, 104), "number -1": sent(-1, 100, 104), "number 1000001": sent(1000001, 100, 104),
		"the least number": sent(math.MinInt64, 100, 104), "the greatest number": sent(math.MaxInt64, 100, 104),
		"sent on -1": sent(7, -1, 104), "due on -1, too": sent(7, -1, -1), "sent on -1, due on 0": sent(7, -1, 0), "sent on the least": sent(7, math.MinInt64, 104),
		"sent on 20001": sent(7, 20001, 20001), "sent on 20001, due on 20000": sent(7, 20001, 20000), "sent on the greatest": sent(7, math.MaxInt64, math.MaxInt64),
		"due before": sent(7, 100, 99), "due far before": sent(7, 20000, 0), "due on -1": sent(7, 0, -1), "due on the least": sent(7, 100, math.MinInt64),
		"due on 20001": sent(7, 100, 20001), "due behind the last day": sent(7, 20000, 20001), "due on the greatest": sent(7, 100, math.MaxInt64),
		"answer -1": answered(7, 100, 104, -1, 102), "answer 4": answered(7, 100, 104, 4, 102), "answer -1 on 0": answered(7, 0, 4, -1, 0), "answer 4 on 0": answered(7, 0, 4, 4, 0),
		"the least answer": answered(7, 100, 104, math.MinInt64, 102), "the greatest answer": answered(7, 100, 104, math.MaxInt64, 102),
		"no answer on 1": answered(7, 0, 4, 0, 1), "no answer when sent": answered(7, 100, 104, 0, 100), "no answer on a day": answered(7, 100, 104, 0, 102), "no answer on 20000": answered(7, 100, 104, 0, 20000),
		"no answer on -1": answered(7, 0, 4, 0, -1), "no answer on 20001": answered(7, 100, 104, 0, 20001), "no answer on the least": answered(7, 100, 104, 0, math.MinInt64), "no answer on the greatest": answered(7, 100, 104, 0, math.MaxInt64),
	}
	for answer := int64(1); answer <= 3; answer++ {
		name := "answer " + strconv.Itoa(int(answer))
		none[name+" a day before"] = answered(7, 100, 104, answer, 99)
		none[name+" on 0"] = answered(7, 100, 104, answer, 0)
		none[name+" on -1"] = answered(7, 0, 4, answer, -1)
		none[name+" on 20001"] = answered(7, 100, 104, answer, 20001)
		none[name+" on the least"] = answered(7, 100, 104, answer, math.MinInt64)
		none[name+" on the greatest"] = answered(7, 100, 104, answer, math.MaxInt64)
	}
	return none
}

// badSummonses returns lists that are no summonses, for one fault each.
func badSummonses() map[string][]impl.Summons {
	one := sent(7, 100, 104)
	lists := map[string][]impl.Summons{
		"21": summonsesTo(21, 1, 1, one), "21, mixed": mixedSummonses(21), "1000": summonsesTo(1000, 1, 5, one), "21 zero values": repeated(21, impl.Summons{}),
		"twice the same": repeated(2, one), "20 times the same": repeated(20, one), "equal numbers, other days": {sent(7, 100, 104), sent(7, 200, 204)},
		"an answer and none": {sent(7, 100, 104), answered(7, 100, 104, 1, 102)}, "equal first two": {sent(3, 100, 104), sent(3, 200, 204), one},
		"equal last two": {sent(3, 100, 104), one, one}, "equal in the middle": {sent(3, 100, 104), one, one, sent(9, 100, 104)}, "the first again": {sent(3, 100, 104), one, sent(3, 100, 104)},
		"falling by 1": {sent(8, 100, 104), sent(7, 100, 104)}, "falling": {sent(9, 100, 104), sent(7, 200, 204), sent(5, 300, 304)}, "falling at the front": {sent(7, 100, 104), sent(5, 100, 104), sent(9, 100, 104)},
		"falling at the end": {sent(5, 100, 104), sent(9, 100, 104), sent(7, 100, 104)}, "the greatest first": {sent(1000000, 100, 104), sent(1, 100, 104)},
	}
	for count := 19; count <= 20; count++ {
		name := strconv.Itoa(count)
		last := mixedSummonses(count)
		last[count-1].Number = last[count-2].Number
		lists[name+", equal last two"] = last
		swapped := mixedSummonses(count)
		swapped[0], swapped[1] = swapped[1], swapped[0]
		lists[name+", first two swapped"] = swapped
	}
	before, behind := summonsesTo(6, 1, 1, one), summonsesTo(9, 8, 1, one)
	for name, no := range noSummonses() {
		lists[name] = []impl.Summons{no}
		if no.Number >= 7 {
			lists[name+", behind"] = append(slices.Clone(before), no)
		}
		if no.Number <= 7 {
			lists[name+", in front"] = append([]impl.Summons{no}, behind...)
		}
		if no.Number == 7 {
			lists[name+", inside"] = slices.Concat(before, []impl.Summons{no}, behind)
		}
	}
	return lists
}

// inOrder returns the summonses of a map in the order of their numbers.
func inOrder(known map[int64]impl.Summons) []impl.Summons {
	var list []impl.Summons
	for _, number := range slices.Sorted(maps.Keys(known)) {
		list = append(list, known[number])
	}
	return list
}

// byNumber returns the summonses of a list by their numbers.
func byNumber(list []impl.Summons) map[int64]impl.Summons {
	known := map[int64]impl.Summons{}
	for _, s := range list {
		known[s.Number] = s
	}
	return known
}

// areRightSummonses is an independent check of a list.
func areRightSummonses(list []impl.Summons) bool {
	for _, s := range list {
		if s.Number < 1 || s.Number > 1000000 || s.Sent < 0 || s.Due > lastDay || s.Sent > s.Due {
			return false
		}
		switch s.Answer {
		case 0:
			if s.Answered != 0 {
				return false
			}
		case 1, 2, 3:
			if s.Sent > s.Answered || s.Answered > lastDay {
				return false
			}
		default:
			return false
		}
	}
	return len(list) <= 20 && slices.Equal(inOrder(byNumber(list)), list)
}

// course tells what holds of one summons on each day.
type course struct {
	place    [lastDay + 1]int // in CountAnswers; -1 before the summons is sent
	reminded [lastDay + 1]bool
	overdue  [lastDay + 1]bool
}

// courseOf returns the course of a summons, found by going from day to day.
func courseOf(s impl.Summons) *course {
	c := &course{}
	place, reminders, wait, late := -1, 0, 0, false
	for day := range int64(lastDay + 1) {
		if day == s.Sent {
			place = 0
		}
		if s.Answer != 0 && day == s.Answered {
			place = int(s.Answer)
		}
		c.place[day] = place
		c.overdue[day] = late && place == 0
		if late && wait == 0 && reminders < 3 {
			c.reminded[day] = place == 0
			reminders++
			wait = 14
		}
		wait = max(wait-1, 0)
		late = late || day == s.Due
	}
	return c
}

// courses are those of a list, with the days of the next reminders.
type courses struct {
	list []impl.Summons
	each []*course
	next [lastDay + 1]int64 // -1 if there is none
}

func coursesOf(list []impl.Summons) *courses {
	all := &courses{list: list}
	for _, s := range list {
		all.each = append(all.each, courseOf(s))
	}
	next := int64(-1)
	for day := int64(lastDay); day >= 0; day-- {
		all.next[day] = next
		for i, c := range all.each {
			if c.reminded[day] && list[i].Answer == 0 {
				next = day
			}
		}
	}
	return all
}

// numbers returns the numbers of the summonses for whose courses something holds.
func (all *courses) numbers(holds func(*course) bool) []int64 {
	var numbers []int64
	for i, c := range all.each {
		if holds(c) {
			numbers = append(numbers, all.list[i].Number)
		}
	}
	return numbers
}

func (all *courses) counts(day int64) []int64 {
	counts := make([]int64, 4)
	for _, c := range all.each {
		if c.place[day] >= 0 {
			counts[c.place[day]]++
		}
	}
	return counts
}

// daysBeside returns days, those beside them, and those at both ends.
func daysBeside(some []int64) []int64 {
	days := []int64{0, 1, 2, 10000, lastDay - 2, lastDay - 1, lastDay}
	for _, day := range some {
		days = append(days, day-1, day, day+1)
	}
	slices.Sort(days)
	days = slices.Compact(days)
	return slices.DeleteFunc(days, func(day int64) bool { return day < 0 || day > lastDay })
}

// daysOfSummonses returns the days at both ends and those around all days at which something changes.
func daysOfSummonses(list []impl.Summons) []int64 {
	var days []int64
	for _, s := range list {
		days = append(days, s.Sent, s.Due, s.Answered, s.Due+1, s.Due+14, s.Due+15, s.Due+28, s.Due+29, s.Due+42, s.Due+43, s.Due+57)
	}
	return daysBeside(days)
}

func checkOpen(t *testing.T, what string, list []impl.Summons, day int64, want []int64) {
	t.Helper()
	if got, code := impl.OpenOn(list, day); !slices.Equal(got, want) || code != impl.ErrNone {
		t.Errorf("%s: OpenOn %d is %v, %d, want %v", what, day, got, code, want)
	}
}

func checkOverdue(t *testing.T, what string, list []impl.Summons, day int64, want []int64) {
	t.Helper()
	if got, code := impl.OverdueOn(list, day); !slices.Equal(got, want) || code != impl.ErrNone {
		t.Errorf("%s: OverdueOn %d is %v, %d, want %v", what, day, got, code, want)
	}
}

func checkReminders(t *testing.T, what string, list []impl.Summons, day int64, want []int64) {
	t.Helper()
	if got, code := impl.RemindersOn(list, day); !slices.Equal(got, want) || code != impl.ErrNone {
		t.Errorf("%s: RemindersOn %d is %v, %d, want %v", what, day, got, code, want)
	}
}

func checkCounts(t *testing.T, what string, list []impl.Summons, day int64, want []int64) {
	t.Helper()
	if got, code := impl.CountAnswers(list, day); !slices.Equal(got, want) || code != impl.ErrNone {
		t.Errorf("%s: CountAnswers on %d is %v, %d, want %v", what, day, got, code, want)
	}
}

// checkNext checks NextReminder, and that there is none if want is -1.
func checkNext(t *testing.T, what string, list []impl.Summons, day, want int64) {
	t.Helper()
	wantCode := int64(impl.ErrNone)
	if want < 0 {
		want, wantCode = 0, impl.ErrNotFound
	}
	if got, code := impl.NextReminder(list, day); got != want || code != wantCode {
		t.Errorf("%s: NextReminder behind %d is %d, %d, want %d, %d", what, day, got, code, want, wantCode)
	}
}

// checkCourses checks all functions for a day, on some days, by the courses of the summonses.
func checkCourses(t *testing.T, what string, list []impl.Summons, days []int64) {
	t.Helper()
	if !areRightSummonses(list) {
		t.Fatalf("%s: the test's list is no list of summonses: %v", what, list)
	}
	all := coursesOf(list)
	for _, day := range days {
		checkOpen(t, what, list, day, all.numbers(func(c *course) bool { return c.place[day] == 0 }))
		checkOverdue(t, what, list, day, all.numbers(func(c *course) bool { return c.overdue[day] }))
		checkReminders(t, what, list, day, all.numbers(func(c *course) bool { return c.reminded[day] }))
		checkCounts(t, what, list, day, all.counts(day))
		checkNext(t, what, list, day, all.next[day])
	}
}

// refSend returns what SendSummons should, for holidays and summonses that are as described.
func refSend(holidays []int64, list []impl.Summons, number, day, days int64) ([]impl.Summons, int64) {
	if number < 1 || number > 1000000 || day < 0 || day > lastDay || days < 0 || days > 1000 {
		return nil, impl.ErrRange
	}
	due := firstOpen(holidays, day+days)
	if due > lastDay {
		return nil, impl.ErrLimit
	}
	known := byNumber(list)
	if _, there := known[number]; there || len(known) > 19 {
		return nil, impl.ErrState
	}
	known[number] = sent(number, day, due)
	return inOrder(known), impl.ErrNone
}

// refAnswer returns what AnswerSummons should, for summonses that are as described.
func refAnswer(list []impl.Summons, number, answer, day int64) ([]impl.Summons, int64) {
	if answer < 1 || answer > 3 || day < 0 || day > lastDay {
		return nil, impl.ErrRange
	}
	known := byNumber(list)
	s, there := known[number]
	if !there {
		return nil, impl.ErrNotFound
	}
	if s.Answer != 0 || s.Sent > day {
		return nil, impl.ErrState
	}
	known[number] = answered(number, s.Sent, s.Due, answer, day)
	return inOrder(known), impl.ErrNone
}

func checkSend(t *testing.T, what string, holidays []int64, list []impl.Summons, number, day, days int64) []impl.Summons {
	t.Helper()
	want, wantCode := refSend(holidays, list, number, day, days)
	got, code := impl.SendSummons(holidays, list, number, day, days)
	if !slices.Equal(got, want) || code != wantCode {
		t.Errorf("%s: SendSummons to %d on %d with %d is %v, %d, want %v, %d", what, number, day, days, got, code, want, wantCode)
	}
	return got
}

func checkAnswer(t *testing.T, what string, list []impl.Summons, number, answer, day int64) []impl.Summons {
	t.Helper()
	want, wantCode := refAnswer(list, number, answer, day)
	got, code := impl.AnswerSummons(list, number, answer, day)
	if !slices.Equal(got, want) || code != wantCode {
		t.Errorf("%s: AnswerSummons of %d with %d on %d is %v, %d, want %v, %d", what, number, answer, day, got, code, want, wantCode)
	}
	return got
}

func TestConstants9(t *testing.T) {
	got := []int64{impl.MaxSummonses, impl.ReminderDays, impl.MaxReminders, impl.AnswerNone, impl.AnswerComes, impl.AnswerExcuse, impl.AnswerReturned}
	if want := []int64{20, 14, 3, 0, 1, 2, 3}; !slices.Equal(got, want) {
		t.Errorf("constants are %v, want %v", got, want)
	}
}

func TestAreSummonses(t *testing.T) {
	checkWhichAre(t, "AreSummonses", impl.AreSummonses, areRightSummonses, goodSummonses(), badSummonses())
}

// All summonses whose fields are at their limits, one before or one behind.
func TestAreSummonsesOfOneSummons(t *testing.T) {
	days := []int64{-1, 0, 1, 99, 100, 101, 19999, 20000, 20001}
	right := 0
	for _, number := range []int64{-1, 0, 1, 2, 999999, 1000000, 1000001} {
		for _, day := range days {
			for _, due := range days {
				for answer := int64(-1); answer <= 4; answer++ {
					for _, on := range days {
						list := []impl.Summons{answered(number, day, due, answer, on)}
						want := areRightSummonses(list)
						if got := impl.AreSummonses(list); got != want {
							t.Fatalf("AreSummonses of %v is %t", list, got)
						}
						if want {
							right++
						}
					}
				}
			}
		}
	}
	// For each of 4 numbers: 28 pairs of Sent and Due without an answer; from the day 0 on there are
	// 7, 6, 5 and so on for Due, and as many for Answered.
	if right != 4*(28+3*(49+36+25+16+9+4+1)) {
		t.Errorf("%d summonses are right", right)
	}
}

// All lists of up to four summonses with the numbers 0 to 4, in all orders.
func TestAreSummonsesOfAllNumbers(t *testing.T) {
	right := 0
	for _, numbers := range listsOver(0, 4, 4) {
		var list []impl.Summons
		for i, number := range numbers {
			list = append(list, sent(number, int64(9-i), 20))
		}
		want := areRightSummonses(list)
		if got := impl.AreSummonses(list); got != want {
			t.Fatalf("AreSummonses of %v is %t", list, got)
		}
		if want {
			right++
		}
	}
	if right != 16 {
		t.Errorf("%d lists are right, want one for each set of the numbers 1 to 4", right)
	}
}

func TestSendSummons(t *testing.T) {
	some := []impl.Summons{sent(3, 100, 104), answered(7, 50, 60, 2, 55), sent(11, 80, 90)}
	full := mixedSummonses(20)
	fullNext := append(slices.Clone(full[:19]), sent(500, 98, 101))
	cases := []struct {
		name              string
		holidays          []int64
		list              []impl.Summons
		number, day, days int64
		want              []impl.Summons
		code              int64
	}{
		{"to nil", nil, nil, 7, 98, 3, []impl.Summons{sent(7, 98, 101)}, impl.ErrNone},
		{"to none", []int64{}, []impl.Summons{}, 7, 98, 3, []impl.Summons{sent(7, 98, 101)}, impl.ErrNone},
		{"over a holiday", []int64{101}, nil, 7, 98, 3, []impl.Summons{sent(7, 98, 102)}, impl.ErrNone},
		{"over a weekend", nil, nil, 7, 98, 5, []impl.Summons{sent(7, 98, 105)}, impl.ErrNone},
		{"over a weekend and a holiday", []int64{105}, nil, 7, 98, 5, []impl.Summons{sent(7, 98, 106)}, impl.ErrNone},
		{"due when sent", nil, nil, 7, 98, 0, []impl.Summons{sent(7, 98, 98)}, impl.ErrNone},
		{"sent on a Saturday", nil, nil, 7, 103, 0, []impl.Summons{sent(7, 103, 105)}, impl.ErrNone},
		{"sent on a holiday", []int64{98}, nil, 7, 98, 0, []impl.Summons{sent(7, 98, 99)}, impl.ErrNone},
		{"on day 0", nil, nil, 7, 0, 0, []impl.Summons{sent(7, 0, 0)}, impl.ErrNone},
		{"within 1000 days", nil, nil, 7, 1, 1000, []impl.Summons{sent(7, 1, 1001)}, impl.ErrNone},
		{"within 1000 days, over a Sunday", nil, nil, 7, 0, 1000, []impl.Summons{sent(7, 0, 1001)}, impl.ErrNone},
		{"within 1000 days, over a holiday", []int64{1001}, nil, 7, 1, 1000, []impl.Summons{sent(7, 1, 1002)}, impl.ErrNone},
		{"on the last day", nil, nil, 7, 20000, 0, []impl.Summons{sent(7, 20000, 20000)}, impl.ErrNone},
		{"up to the last day", nil, nil, 7, 19000, 1000, []impl.Summons{sent(7, 19000, 20000)}, impl.ErrNone},
		{"the least number", nil, some, 1, 98, 3, slices.Insert(slices.Clone(some), 0, sent(1, 98, 101)), impl.ErrNone},
		{"ahead of all", nil, some, 2, 98, 3, slices.Insert(slices.Clone(some), 0, sent(2, 98, 101)), impl.ErrNone},
		{"behind the first", nil, some, 4, 98, 3, slices.Insert(slices.Clone(some), 1, sent(4, 98, 101)), impl.ErrNone},
		{"before the second", nil, some, 6, 98, 3, slices.Insert(slices.Clone(some), 1, sent(6, 98, 101)), impl.ErrNone},
		{"between the last two", nil, some, 8, 98, 3, slices.Insert(slices.Clone(some), 2, sent(8, 98, 101)), impl.ErrNone},
		{"behind all", nil, some, 12, 98, 3, append(slices.Clone(some), sent(12, 98, 101)), impl.ErrNone},
		{"the greatest number", nil, some, 1000000, 98, 3, append(slices.Clone(some), sent(1000000, 98, 101)), impl.ErrNone},
		{"the 20th one", nil, full[:19], 500, 98, 3, fullNext, impl.ErrNone},

		{"number 0", nil, some, 0, 98, 3, nil, impl.ErrRange},
		{"number 1000001", nil, some, 1000001, 98, 3, nil, impl.ErrRange},
		{"on day -1", nil, some, 5, -1, 3, nil, impl.ErrRange},
		{"on day 20001", nil, some, 5, 20001, 0, nil, impl.ErrRange},
		{"within -1 days", nil, some, 5, 98, -1, nil, impl.ErrRange},
		{"within 1001 days", nil, some, 5, 98, 1001, nil, impl.ErrRange},
		{"a deadline on 20001", nil, some, 5, 19001, 1000, nil, impl.ErrLimit},
		{"a deadline behind a holiday", []int64{20000}, some, 5, 20000, 0, nil, impl.ErrLimit},
		{"a deadline on 21000", nil, some, 5, 20000, 1000, nil, impl.ErrLimit},
		{"the first once more", nil, some, 3, 98, 3, nil, impl.ErrState},
		{"the second once more", nil, some, 7, 98, 3, nil, impl.ErrState},
		{"the last once more", nil, some, 11, 98, 3, nil, impl.ErrState},
		{"the same once more", nil, []impl.Summons{sent(7, 98, 101)}, 7, 98, 3, nil, impl.ErrState},
		{"the 21st one", nil, full, 500, 98, 3, nil, impl.ErrState},
		{"the 21st one, in front", nil, full, 1, 98, 3, nil, impl.ErrState},
		{"one of 20 once more", nil, full, full[9].Number, 98, 3, nil, impl.ErrState},
	}
	for _, c := range cases {
		if got, code := impl.SendSummons(c.holidays, c.list, c.number, c.day, c.days); !slices.Equal(got, c.want) || code != c.code {
			t.Errorf("%s: SendSummons is %v, %d, want %v, %d", c.name, got, code, c.want, c.code)
		}
	}
}

// numbersBeside returns numbers, those beside them, and the ends.
func numbersBeside(some []int64) []int64 {
	numbers := []int64{math.MinInt64, -1, 0, 1, 1000000, 1000001, math.MaxInt64}
	for _, number := range some {
		numbers = append(numbers, number-1, number, number+1)
	}
	slices.Sort(numbers)
	return slices.Compact(numbers)
}

// numbersAround returns the numbers of a list, those beside them, and the ends.
func numbersAround(list []impl.Summons) []int64 {
	var numbers []int64
	for _, s := range list {
		numbers = append(numbers, s.Number)
	}
	return numbersBeside(numbers)
}

func TestSendSummonsToAllLists(t *testing.T) {
	for name, list := range goodSummonses() {
		for _, number := range numbersAround(list) {
			for _, day := range append(notDays(), 0, 1, 98, 102, 103, 104, 19000, 19001, 19500, 19998, 19999, 20000) {
				for _, days := range []int64{math.MinInt64, -1, 0, 1, 2, 500, 999, 1000, 1001, math.MaxInt64} {
					checkSend(t, name, nil, list, number, day, days)
				}
			}
		}
	}
	for name, holidays := range calendars() {
		for _, day := range someDays() {
			for _, days := range []int64{0, 1, 4, 14, 1000} {
				checkSend(t, name, holidays, mixedSummonses(19), 4, day, days)
			}
		}
	}
}

// Two arguments are wrong at once: holidays or a list, then a number, then the deadline, then the rest.
func TestSendSummonsErrorOrder(t *testing.T) {
	some, full := []impl.Summons{sent(7, 100, 104)}, mixedSummonses(20)
	for _, list := range [][]impl.Summons{some, full} {
		there := list[0].Number
		for _, c := range []struct{ number, day, days, want int64 }{
			{0, 98, 3, impl.ErrRange}, {1000001, 98, 3, impl.ErrRange}, {0, 20000, 1000, impl.ErrRange}, {1000001, 19001, 1000, impl.ErrRange},
			{there, -1, 3, impl.ErrRange}, {there, 20001, 3, impl.ErrRange}, {there, 98, -1, impl.ErrRange}, {there, 98, 1001, impl.ErrRange},
			{there, 20000, 1001, impl.ErrRange}, {there, 20001, 1000, impl.ErrRange}, {9, 20000, 1001, impl.ErrRange}, {9, 20000, -1, impl.ErrRange}, {9, math.MaxInt64, math.MaxInt64, impl.ErrRange},
			{there, 20000, 1000, impl.ErrLimit}, {there, 19001, 1000, impl.ErrLimit}, {9, 20000, 1000, impl.ErrLimit}, {there, 20000, 1, impl.ErrLimit},
			{there, 98, 3, impl.ErrState}, {there, 20000, 0, impl.ErrState}, {there, 0, 1000, impl.ErrState},
		} {
			if got, code := impl.SendSummons(nil, list, c.number, c.day, c.days); len(got) != 0 || code != c.want {
				t.Errorf("SendSummons to %d on %d with %d is %v, %d, want %d", c.number, c.day, c.days, got, code, c.want)
			}
			for name, no := range noHolidays() {
				if got, code := impl.SendSummons(no, list, c.number, c.day, c.days); len(got) != 0 || code != impl.ErrInvalid {
					t.Errorf("%s: SendSummons to %d on %d with %d is %v, %d, want ErrInvalid", name, c.number, c.day, c.days, got, code)
				}
			}
			for name, no := range badSummonses() {
				for _, holidays := range [][]int64{nil, {102}, {-1}} {
					if got, code := impl.SendSummons(holidays, no, c.number, c.day, c.days); len(got) != 0 || code != impl.ErrInvalid {
						t.Errorf("%s: SendSummons to %d on %d with %d is %v, %d, want ErrInvalid", name, c.number, c.day, c.days, got, code)
					}
				}
			}
		}
	}
	for name, no := range noHolidays() {
		if got, code := impl.SendSummons(no, nil, 7, 98, 3); len(got) != 0 || code != impl.ErrInvalid {
			t.Errorf("%s: SendSummons is %v, %d, want ErrInvalid", name, got, code)
		}
	}
	for name, no := range badSummonses() {
		if got, code := impl.SendSummons(nil, no, 500000, 98, 3); len(got) != 0 || code != impl.ErrInvalid {
			t.Errorf("%s: SendSummons is %v, %d, want ErrInvalid", name, got, code)
		}
	}
}

func TestAnswerSummons(t *testing.T) {
	some := []impl.Summons{sent(3, 100, 104), answered(7, 50, 60, 2, 55), sent(11, 80, 90)}
	cases := []struct {
		name                string
		list                []impl.Summons
		number, answer, day int64
		want                []impl.Summons
		code                int64
	}{
		{"comes", some, 3, impl.AnswerComes, 102, []impl.Summons{answered(3, 100, 104, 1, 102), some[1], some[2]}, impl.ErrNone},
		{"an excuse", some, 3, impl.AnswerExcuse, 102, []impl.Summons{answered(3, 100, 104, 2, 102), some[1], some[2]}, impl.ErrNone},
		{"returned", some, 3, impl.AnswerReturned, 102, []impl.Summons{answered(3, 100, 104, 3, 102), some[1], some[2]}, impl.ErrNone},
		{"the last one", some, 11, 1, 85, []impl.Summons{some[0], some[1], answered(11, 80, 90, 1, 85)}, impl.ErrNone},
		{"when sent", some, 3, 1, 100, []impl.Summons{answered(3, 100, 104, 1, 100), some[1], some[2]}, impl.ErrNone},
		{"on the day due", some, 3, 1, 104, []impl.Summons{answered(3, 100, 104, 1, 104), some[1], some[2]}, impl.ErrNone},
		{"behind the day due", some, 3, 1, 105, []impl.Summons{answered(3, 100, 104, 1, 105), some[1], some[2]}, impl.ErrNone},
		{"on the last day", some, 3, 1, 20000, []impl.Summons{answered(3, 100, 104, 1, 20000), some[1], some[2]}, impl.ErrNone},
		{"on day 0", []impl.Summons{sent(1, 0, 0)}, 1, 3, 0, []impl.Summons{answered(1, 0, 0, 3, 0)}, impl.ErrNone},
		{"the greatest number", []impl.Summons{sent(1000000, 0, 0)}, 1000000, 3, 9, []impl.Summons{answered(1000000, 0, 0, 3, 9)}, impl.ErrNone},

		{"a day before it is sent", some, 3, 1, 99, nil, impl.ErrState},
		{"far before it is sent", some, 3, 1, 0, nil, impl.ErrState},
		{"answered already", some, 7, 2, 55, nil, impl.ErrState},
		{"answered already, with another answer", some, 7, 1, 70, nil, impl.ErrState},
		{"to be answered later", some, 7, 1, 52, nil, impl.ErrState},
		{"answered already, before it is sent", some, 7, 1, 49, nil, impl.ErrState},
		{"of nobody in nil", nil, 7, 1, 102, nil, impl.ErrNotFound},
		{"of nobody, ahead of all", some, 2, 1, 102, nil, impl.ErrNotFound},
		{"of nobody, between", some, 8, 1, 102, nil, impl.ErrNotFound},
		{"of nobody, behind all", some, 12, 1, 102, nil, impl.ErrNotFound},
		{"of the number 0", some, 0, 1, 102, nil, impl.ErrNotFound},
		{"of the number -3", some, -3, 1, 102, nil, impl.ErrNotFound},
		{"of the number 1000001", some, 1000001, 1, 102, nil, impl.ErrNotFound},
		{"of the least number", some, math.MinInt64, 1, 102, nil, impl.ErrNotFound},
		{"of the greatest number", some, math.MaxInt64, 1, 102, nil, impl.ErrNotFound},
		{"no answer", some, 3, impl.AnswerNone, 102, nil, impl.ErrRange},
		{"answer 4", some, 3, 4, 102, nil, impl.ErrRange},
		{"answer -1", some, 3, -1, 102, nil, impl.ErrRange},
		{"on day -1", some, 3, 1, -1, nil, impl.ErrRange},
		{"on day 20001", some, 3, 1, 20001, nil, impl.ErrRange},
	}
	for _, c := range cases {
		if got, code := impl.AnswerSummons(c.list, c.number, c.answer, c.day); !slices.Equal(got, c.want) || code != c.code {
			t.Errorf("%s: AnswerSummons is %v, %d, want %v, %d", c.name, got, code, c.want, c.code)
		}
	}
}

func notAnswers() []int64 {
	return []int64{math.MinInt64, -1, 0, 4, 5, math.MaxInt64}
}

func TestAnswerSummonsOfAllLists(t *testing.T) {
	for name, list := range goodSummonses() {
		days := append(daysOfSummonses(list), notDays()...)
		for _, number := range numbersAround(list) {
			for _, day := range days {
				for _, answer := range append(notAnswers(), 1, 2, 3) {
					checkAnswer(t, name, list, number, answer, day)
				}
			}
		}
	}
}

// Two arguments are wrong at once: the list, then a day or an answer, then the number, then the rest.
func TestAnswerSummonsErrorOrder(t *testing.T) {
	some := []impl.Summons{sent(3, 100, 104), answered(7, 50, 60, 2, 55)}
	for _, c := range []struct{ number, answer, day, want int64 }{
		{4, 0, 102, impl.ErrRange}, {4, 4, 102, impl.ErrRange}, {4, 1, -1, impl.ErrRange}, {4, 1, 20001, impl.ErrRange}, {0, 0, 102, impl.ErrRange}, {1000001, 4, -1, impl.ErrRange},
		{7, 0, 102, impl.ErrRange}, {7, 4, 102, impl.ErrRange}, {7, 1, -1, impl.ErrRange}, {7, 1, 20001, impl.ErrRange}, {3, 0, 99, impl.ErrRange}, {3, 4, 99, impl.ErrRange}, {3, 1, -1, impl.ErrRange},
		{4, 1, 0, impl.ErrNotFound}, {0, 1, 0, impl.ErrNotFound}, {1000001, 3, 20000, impl.ErrNotFound},
		{7, 1, 49, impl.ErrState}, {7, 2, 55, impl.ErrState}, {3, 1, 99, impl.ErrState},
	} {
		if got, code := impl.AnswerSummons(some, c.number, c.answer, c.day); len(got) != 0 || code != c.want {
			t.Errorf("AnswerSummons of %d with %d on %d is %v, %d, want %d", c.number, c.answer, c.day, got, code, c.want)
		}
		for name, no := range badSummonses() {
			if got, code := impl.AnswerSummons(no, c.number, c.answer, c.day); len(got) != 0 || code != impl.ErrInvalid {
				t.Errorf("%s: AnswerSummons of %d with %d on %d is %v, %d, want ErrInvalid", name, c.number, c.answer, c.day, got, code)
			}
		}
	}
	for name, no := range badSummonses() {
		if got, code := impl.AnswerSummons(no, 7, 1, 102); len(got) != 0 || code != impl.ErrInvalid {
			t.Errorf("%s: AnswerSummons is %v, %d, want ErrInvalid", name, got, code)
		}
	}
}

func TestOpenAndOverdueOn(t *testing.T) {
	open := []impl.Summons{sent(7, 100, 104)}
	late := []impl.Summons{answered(7, 100, 104, 2, 110)}
	early := []impl.Summons{answered(7, 100, 104, 1, 102)}
	at := []impl.Summons{answered(7, 100, 104, 3, 100)}
	due := []impl.Summons{sent(7, 100, 100)}
	cases := []struct {
		name          string
		list          []impl.Summons
		day           int64
		open, overdue bool
	}{
		{"before it is sent", open, 99, false, false}, {"on day 0, before it is sent", open, 0, false, false}, {"when sent", open, 100, true, false},
		{"before the day due", open, 103, true, false}, {"on the day due", open, 104, true, false}, {"a day behind it", open, 105, true, true}, {"on the last day", open, 20000, true, true},
		{"late, before it is sent", late, 99, false, false}, {"late, when sent", late, 100, true, false}, {"late, on the day due", late, 104, true, false}, {"late, a day behind it", late, 105, true, true},
		{"late, a day before the answer", late, 109, true, true}, {"late, on the day of the answer", late, 110, false, false}, {"late, behind the answer", late, 111, false, false}, {"late, on the last day", late, 20000, false, false},
		{"early, a day before the answer", early, 101, true, false}, {"early, on the day of the answer", early, 102, false, false}, {"early, on the day due", early, 104, false, false}, {"early, a day behind it", early, 105, false, false},
		{"answered when sent, before that", at, 99, false, false}, {"answered when sent", at, 100, false, false}, {"answered when sent, later", at, 105, false, false},
		{"due when sent", due, 100, true, false}, {"due when sent, a day later", due, 101, true, true},
		{"none", nil, 100, false, false},
	}
	for _, c := range cases {
		var isOpen, isOverdue []int64
		if c.open {
			isOpen = []int64{7}
		}
		if c.overdue {
			isOverdue = []int64{7}
		}
		checkOpen(t, c.name, c.list, c.day, isOpen)
		checkOverdue(t, c.name, c.list, c.day, isOverdue)
	}
	list := []impl.Summons{sent(2, 105, 109), sent(3, 100, 104), answered(5, 90, 99, 1, 101), answered(8, 90, 99, 2, 106), sent(9, 106, 107)}
	checkOpen(t, "several", list, 105, []int64{2, 3, 8})
	checkOverdue(t, "several", list, 105, []int64{3, 8})
}

func TestRemindersOn(t *testing.T) {
	list := []impl.Summons{sent(7, 100, 104)}
	for day := int64(0); day <= 1000; day++ {
		var want []int64
		if day == 105 || day == 119 || day == 133 {
			want = []int64{7}
		}
		checkReminders(t, "not answered", list, day, want)
	}
	for _, c := range []struct {
		name    string
		one     impl.Summons
		day     int64
		is      bool
		because string
	}{
		{"on the day due", sent(7, 100, 104), 104, false, "it is not overdue"},
		{"on day 19999", sent(7, 100, 19998), 19999, true, "it is the first reminder"},
		{"on the last day", sent(7, 100, 19999), 20000, true, "it is the first reminder"},
		{"the second on the last day", sent(7, 100, 19985), 20000, true, "it is the second reminder"},
		{"the third on the last day", sent(7, 100, 19971), 20000, true, "it is the third reminder"},
		{"a fourth on the last day", sent(7, 100, 19957), 20000, false, "there are three"},
		{"due on the last day", sent(7, 100, 20000), 20000, false, "it is not overdue"},
		{"answered when the first is due", answered(7, 100, 104, 1, 105), 105, false, "it is not open"},
		{"answered a day later", answered(7, 100, 104, 1, 106), 105, true, "it is open on the day"},
		{"answered since the first", answered(7, 100, 104, 1, 106), 119, false, "it is not open"},
		{"answered since the second", answered(7, 100, 104, 2, 120), 119, true, "it is open on the day"},
		{"answered when the second is due", answered(7, 100, 104, 2, 119), 119, false, "it is not open"},
		{"answered when the third is due", answered(7, 100, 104, 3, 133), 133, false, "it is not open"},
		{"answered since the third", answered(7, 100, 104, 3, 134), 133, true, "it is open on the day"},
		{"answered before the day due", answered(7, 100, 104, 1, 102), 105, false, "it is not open"},
		{"due when sent", sent(7, 0, 0), 1, true, "it is the first reminder"},
		{"on day 0", sent(7, 0, 0), 0, false, "it is not overdue"},
	} {
		var want []int64
		if c.is {
			want = []int64{7}
		}
		checkReminders(t, c.name+": "+c.because, []impl.Summons{c.one}, c.day, want)
	}
	several := []impl.Summons{sent(1, 100, 104), sent(2, 100, 118), sent(3, 100, 132), sent(4, 100, 146), answered(5, 100, 118, 1, 119), sent(6, 100, 90+14)}
	checkReminders(t, "several, the first day", several, 105, []int64{1, 6})
	checkReminders(t, "several, the second day", several, 119, []int64{1, 2, 6})
	checkReminders(t, "several, the third day", several, 133, []int64{1, 2, 3, 6})
	checkReminders(t, "several, the fourth day", several, 147, []int64{2, 3, 4})
	checkReminders(t, "several, between", several, 120, nil)
}

func TestCountAnswers(t *testing.T) {
	list := []impl.Summons{sent(1, 100, 104), answered(2, 100, 104, 1, 102), answered(3, 100, 104, 1, 106), answered(4, 101, 104, 2, 101), answered(5, 100, 104, 3, 103), answered(6, 102, 104, 3, 103), sent(7, 105, 109)}
	for _, c := range []struct {
		day  int64
		want []int64
	}{
		{0, []int64{0, 0, 0, 0}}, {99, []int64{0, 0, 0, 0}}, {100, []int64{4, 0, 0, 0}}, {101, []int64{4, 0, 1, 0}}, {102, []int64{4, 1, 1, 0}}, {103, []int64{2, 1, 1, 2}},
		{104, []int64{2, 1, 1, 2}}, {105, []int64{3, 1, 1, 2}}, {106, []int64{2, 2, 1, 2}}, {20000, []int64{2, 2, 1, 2}},
	} {
		checkCounts(t, "several", list, c.day, c.want)
	}
	for answer := int64(1); answer <= 3; answer++ {
		one := []impl.Summons{answered(9, 100, 104, answer, 110)}
		want := []int64{0, 0, 0, 0}
		checkCounts(t, "before it is sent", one, 99, want)
		checkCounts(t, "when sent", one, 100, []int64{1, 0, 0, 0})
		checkCounts(t, "before the answer", one, 109, []int64{1, 0, 0, 0})
		want[answer] = 1
		checkCounts(t, "on the day of the answer", one, 110, want)
		checkCounts(t, "behind it", one, 111, want)
		checkCounts(t, "answered when sent", []impl.Summons{answered(9, 100, 104, answer, 100)}, 100, want)
		want[answer] = 20
		checkCounts(t, "20 with the same answer", summonsesTo(20, 1, 1, one[0]), 20000, want)
	}
	checkCounts(t, "nil", nil, 0, []int64{0, 0, 0, 0})
	checkCounts(t, "none", []impl.Summons{}, 20000, []int64{0, 0, 0, 0})
	checkCounts(t, "20 open", summonsesTo(20, 1, 1, sent(1, 100, 104)), 20000, []int64{20, 0, 0, 0})
}

func TestNextReminder(t *testing.T) {
	open := []impl.Summons{sent(7, 100, 104)}
	two := []impl.Summons{sent(7, 100, 104), sent(9, 100, 111)}
	other := []impl.Summons{answered(3, 100, 101, 1, 5000), sent(7, 100, 104), answered(9, 100, 110, 2, 300)}
	cases := []struct {
		name      string
		list      []impl.Summons
		day, want int64
	}{
		{"nil", nil, 0, -1}, {"none, on the last day", []impl.Summons{}, 20000, -1},
		{"on day 0, before it is sent", open, 0, 105}, {"a day before it is sent", open, 99, 105}, {"on the day due", open, 104, 105},
		{"on the first", open, 105, 119}, {"behind the first", open, 106, 119}, {"before the second", open, 118, 119}, {"on the second", open, 119, 133},
		{"before the third", open, 132, 133}, {"on the third", open, 133, -1}, {"behind the third", open, 134, -1}, {"before a fourth", open, 146, -1}, {"on the last day", open, 20000, -1},
		{"of two, before the first", two, 104, 105}, {"of two, on it", two, 105, 112}, {"of two, on the second", two, 112, 119}, {"of two, on the third", two, 119, 126}, {"of two, on the last but one", two, 133, 140}, {"of two, on the last", two, 140, -1},
		{"answered ones alone", []impl.Summons{answered(7, 100, 104, 1, 5000)}, 100, -1}, {"answered ones alone, on day 0", []impl.Summons{answered(7, 100, 104, 2, 5000), answered(9, 100, 104, 3, 100)}, 0, -1},
		{"beside answered ones", other, 0, 105}, {"beside answered ones, on the first", other, 105, 119}, {"beside answered ones, on the last", other, 133, -1},
		{"the first on the last day", []impl.Summons{sent(7, 100, 19999)}, 100, 20000}, {"on the last day, when it is", []impl.Summons{sent(7, 100, 19999)}, 20000, -1},
		{"the first behind the last day", []impl.Summons{sent(7, 100, 20000)}, 100, -1}, {"the first behind the last day, on it", []impl.Summons{sent(7, 20000, 20000)}, 20000, -1},
		{"the second on the last day", []impl.Summons{sent(7, 100, 19985)}, 19986, 20000}, {"the second behind the last day", []impl.Summons{sent(7, 100, 19986)}, 19987, -1},
		{"the third on the last day", []impl.Summons{sent(7, 100, 19971)}, 19986, 20000}, {"the third behind the last day", []impl.Summons{sent(7, 100, 19972)}, 19987, -1}, {"before the second, the third being behind", []impl.Summons{sent(7, 100, 19972)}, 19986, 19987},
		{"one behind the last day, one not", []impl.Summons{sent(7, 100, 20000), sent(8, 100, 300)}, 100, 301}, {"only the one behind is left", []impl.Summons{sent(7, 100, 20000), sent(8, 100, 300)}, 329, -1},
		{"from day 0 on", []impl.Summons{sent(7, 0, 0)}, 0, 1},
	}
	for _, c := range cases {
		checkNext(t, c.name, c.list, c.day, c.want)
	}
}

func TestSummonsesByTheirCourses(t *testing.T) {
	for name, list := range goodSummonses() {
		checkCourses(t, name, list, daysOfSummonses(list))
	}
	checkCourses(t, "mixed", mixedSummonses(20), everyDay(0, 1, lastDay+1))
}

// randomSummonses returns a list on days below a limit.
func randomSummonses(g *rand.Rand, from, days int64) []impl.Summons {
	known := map[int64]impl.Summons{}
	for range g.IntN(21) {
		one := sent(1+g.Int64N(40), from+g.Int64N(days), 0)
		one.Due = one.Sent + g.Int64N(from+days-one.Sent)
		if one.Answer = g.Int64N(4); one.Answer > 0 {
			one.Answered = one.Sent + g.Int64N(from+days-one.Sent)
		}
		known[one.Number] = one
	}
	return inOrder(known)
}

func TestRandomSummonses(t *testing.T) {
	g := rand.New(rand.NewPCG(1, 9))
	for i := range 200 {
		from, days := g.Int64N(19000), 1+g.Int64N(200)
		if i%4 == 0 {
			from = lastDay + 1 - days
		}
		list := randomSummonses(g, from, days)
		what := "random " + strconv.Itoa(i)
		checkCourses(t, what, list, daysOfSummonses(list))
		for range 20 {
			day := min(from+g.Int64N(days), lastDay)
			checkSend(t, what, nil, list, 1+g.Int64N(40), day, g.Int64N(100))
			checkAnswer(t, what, list, 1+g.Int64N(40), g.Int64N(5), day)
		}
	}
}

// One field of a right list is changed at random.
func TestRandomSummonsesWithFaults(t *testing.T) {
	g := rand.New(rand.NewPCG(2, 9))
	wrong := 0
	for range 20000 {
		list := randomSummonses(g, 0, 60)
		if len(list) == 0 {
			continue
		}
		s := &list[g.IntN(len(list))]
		field := []*int64{&s.Number, &s.Sent, &s.Due, &s.Answer, &s.Answered}[g.IntN(5)]
		*field += g.Int64N(21) - 10
		want := areRightSummonses(list)
		if got := impl.AreSummonses(list); got != want {
			t.Fatalf("AreSummonses of %v is %t", list, got)
		}
		if !want {
			wrong++
		}
	}
	if wrong < 5000 || wrong > 15000 {
		t.Errorf("%d of the random lists are none", wrong)
	}
}

// isAmong reports whether all numbers of a list are among others.
func isAmong(list, others []int64) bool {
	return !slices.ContainsFunc(list, func(n int64) bool { return !slices.Contains(others, n) })
}

// The promise P9: an overdue summons is open; and so is one of which a reminder is due.
func TestAnOverdueSummonsIsOpen(t *testing.T) {
	for name, list := range goodSummonses() {
		for day := int64(0); day <= lastDay; day++ {
			open, code := impl.OpenOn(list, day)
			overdue, two := impl.OverdueOn(list, day)
			reminders, three := impl.RemindersOn(list, day)
			if code != impl.ErrNone || two != impl.ErrNone || three != impl.ErrNone {
				t.Fatalf("%s: OpenOn, OverdueOn and RemindersOn %d are %d, %d, %d", name, day, code, two, three)
			}
			if !isAmong(overdue, open) || !isAmong(reminders, overdue) {
				t.Fatalf("%s: on %d, %v are open, %v overdue, %v reminded", name, day, open, overdue, reminders)
			}
		}
	}
}

// The promise P9: answers are counted once. So on each day the counts are those of all that were
// sent by then, the first of them is that of those open, and the others never fall.
func TestAnswersAreCountedOnce(t *testing.T) {
	for name, list := range goodSummonses() {
		before := make([]int64, 4)
		for day := int64(0); day <= lastDay; day++ {
			counts, code := impl.CountAnswers(list, day)
			open, _ := impl.OpenOn(list, day)
			if code != impl.ErrNone || len(counts) != 4 || counts[0] != int64(len(open)) {
				t.Fatalf("%s: CountAnswers on %d is %v, %d, where %v are open", name, day, counts, code, open)
			}
			sum, known := int64(0), int64(0)
			for i, n := range counts {
				sum += n
				if i > 0 && n < before[i] {
					t.Fatalf("%s: CountAnswers on %d is %v, and was %v before", name, day, counts, before)
				}
			}
			for _, s := range list {
				if s.Sent <= day {
					known++
				}
			}
			if sum != known {
				t.Fatalf("%s: CountAnswers on %d is %v, where %d have been sent", name, day, counts, known)
			}
			before = counts
		}
	}
}

// An answer moves one summons from the open ones to those with the answer, from its day on, and can
// be given only once.
func TestAnAnswerIsGivenOnce(t *testing.T) {
	for name, list := range goodSummonses() {
		for _, s := range list {
			if s.Answer != 0 {
				continue
			}
			for _, on := range []int64{s.Sent, min(s.Due+1, lastDay), lastDay} {
				answer := 1 + (on+s.Number)%3
				changed := checkAnswer(t, name, list, s.Number, answer, on)
				for _, day := range daysOfSummonses(list) {
					want, _ := impl.CountAnswers(list, day)
					if day >= on {
						want[0]--
						want[answer]++
					}
					checkCounts(t, name+", answered", changed, day, want)
				}
				for again := int64(1); again <= 3; again++ {
					if got, code := impl.AnswerSummons(changed, s.Number, again, on); len(got) != 0 || code != impl.ErrState {
						t.Errorf("%s: the second answer of %d is %v, %d, want ErrState", name, s.Number, got, code)
					}
				}
			}
		}
	}
}

// Twenty summonses are sent and answered, one after the other, in any order of numbers.
func TestSummonsesFromTheFirstToTheLast(t *testing.T) {
	g := rand.New(rand.NewPCG(3, 9))
	for range 50 {
		var list []impl.Summons
		numbers := g.Perm(60)[:20]
		for _, number := range numbers {
			day := g.Int64N(300)
			list = checkSend(t, "in turn", []int64{11, 100, 101, 102, 200}, list, int64(number+1), day, g.Int64N(30))
			if !impl.AreSummonses(list) {
				t.Fatalf("AreSummonses of %v is false", list)
			}
			if g.IntN(2) == 0 {
				list = checkAnswer(t, "in turn", list, int64(number+1), 1+g.Int64N(3), day+g.Int64N(60))
			}
			checkCourses(t, "in turn", list, []int64{day, day + 30, day + 60, 400})
		}
		if len(list) != 20 {
			t.Fatalf("%d of 20 summonses are there: %v", len(list), list)
		}
		if got, code := impl.SendSummons(nil, list, 1000, 0, 0); len(got) != 0 || code != impl.ErrState {
			t.Errorf("the 21st is %v, %d, want ErrState", got, code)
		}
	}
}

// dayListCalls are the functions that return a list for a day.
func dayListCalls() map[string]func(list []impl.Summons, day int64) ([]int64, int64) {
	return map[string]func(list []impl.Summons, day int64) ([]int64, int64){
		"OpenOn": impl.OpenOn, "OverdueOn": impl.OverdueOn, "RemindersOn": impl.RemindersOn, "CountAnswers": impl.CountAnswers,
	}
}

func checkDayErrors(t *testing.T, what string, list []impl.Summons, day, want int64) {
	t.Helper()
	for name, call := range dayListCalls() {
		if got, code := call(list, day); len(got) != 0 || code != want {
			t.Errorf("%s: %s %d is %v, %d, want none, %d", what, name, day, got, code, want)
		}
	}
	if got, code := impl.NextReminder(list, day); got != 0 || code != want {
		t.Errorf("%s: NextReminder behind %d is %d, %d, want 0, %d", what, day, got, code, want)
	}
}

// No day is ErrRange, also where there would be no reminder; a wrong list is ErrInvalid before that.
func TestSummonsErrors(t *testing.T) {
	for name, list := range goodSummonses() {
		for _, day := range notDays() {
			checkDayErrors(t, name, list, day, impl.ErrRange)
		}
	}
	for name, list := range badSummonses() {
		for _, day := range append(notDays(), 0, 99, 100, 102, 105, 119, 20000) {
			checkDayErrors(t, name, list, day, impl.ErrInvalid)
		}
	}
}

// spoilSummonses overwrites a result up to its capacity.
func spoilSummonses(list []impl.Summons) {
	list = list[:cap(list)]
	for i := range list {
		list[i] = answered(-7, -7, -7, -7, -7)
	}
}

// summonsesWithSpare returns a copy of a list with summonses in the spare capacity behind it, and all of them.
func summonsesWithSpare(list []impl.Summons) (part, whole []impl.Summons) {
	whole = append(slices.Clone(list), sent(1000000, 50, 59), impl.Summons{}, answered(12, 1, 2, 3, 4))
	return whole[:len(list)], whole
}

// summonsResults calls all functions that return summonses, in places from the first to the last.
func summonsResults(holidays []int64, list []impl.Summons) [][]impl.Summons {
	var results [][]impl.Summons
	for _, number := range numbersAround(list) {
		for _, day := range []int64{0, 103, 20000} {
			changed, _ := impl.SendSummons(holidays, list, number, day, 5)
			results = append(results, changed)
			changed, _ = impl.AnswerSummons(list, number, 2, day)
			results = append(results, changed)
		}
	}
	return results
}

func TestResultsAreNew9(t *testing.T) {
	for name, list := range goodSummonses() {
		part, whole := summonsesWithSpare(list)
		holidays, wholeHolidays := withSpare([]int64{101, 108, 19998})
		kept, keptHolidays := slices.Clone(whole), slices.Clone(wholeHolidays)
		results, again := summonsResults(holidays, part), summonsResults(holidays, part)
		for i, result := range results {
			keptResult := slices.Clone(result)
			spoilSummonses(again[i])
			if !slices.Equal(result, keptResult) {
				t.Errorf("%s: results of two calls share memory: %v", name, result)
			}
			for _, later := range summonsResults(holidays, result) {
				spoilSummonses(later)
			}
			if !slices.Equal(result, keptResult) {
				t.Errorf("%s: a result shares memory with an argument: %v", name, result)
			}
			spoilSummonses(result)
			if !slices.Equal(whole, kept) || !slices.Equal(wholeHolidays, keptHolidays) {
				t.Fatalf("%s: a result shares memory with an argument: %v, %v", name, whole, wholeHolidays)
			}
		}
		for what, call := range dayListCalls() {
			for _, day := range []int64{0, 100, 104, 105, 119, 20000} {
				one, _ := call(part, day)
				two, _ := call(part, day)
				keptOne := slices.Clone(one)
				spoil(two)
				if !slices.Equal(one, keptOne) {
					t.Errorf("%s: results of two calls of %s share memory", name, what)
				}
				spoil(one)
				if three, _ := call(part, day); !slices.Equal(three, keptOne) || !slices.Equal(whole, kept) {
					t.Errorf("%s: %s is %v, and was %v before its result was changed", name, what, three, keptOne)
				}
			}
		}
	}
}

func TestArgumentsAreKept9(t *testing.T) {
	lists := goodSummonses()
	for name, list := range badSummonses() {
		lists["no summonses: "+name] = list
	}
	for name, list := range lists {
		part, whole := summonsesWithSpare(list)
		holidays, wholeHolidays := withSpare([]int64{101, 108, 19998})
		kept, keptHolidays := slices.Clone(whole), slices.Clone(wholeHolidays)
		impl.AreSummonses(part)
		for _, day := range []int64{-1, 0, 50, 99, 100, 105, 119, 20000, 20001} {
			for _, call := range dayListCalls() {
				call(part, day)
			}
			impl.NextReminder(part, day)
			for _, number := range []int64{0, 1, 2, 3, 7, 8, 10, 500, 1000000, 1000001} {
				impl.SendSummons(holidays, part, number, day, 5)
				impl.SendSummons(wholeHolidays, part, number, day, 5)
				impl.AnswerSummons(part, number, 1, day)
				impl.AnswerSummons(part, number, 4, day)
			}
		}
		if !slices.Equal(whole, kept) || !slices.Equal(wholeHolidays, keptHolidays) {
			t.Errorf("%s: an argument was changed: %v, %v", name, whole, wholeHolidays)
		}
	}
}
