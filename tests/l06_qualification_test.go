package tests

import (
	"math"
	"math/rand/v2"
	"slices"
	"strconv"
	"strings"
	"testing"

	"loop.example/g01027/impl"
)

// court has rules in the middle of all ranges; tests change some of their fields.
func court() impl.Rules {
	return impl.Rules{Year: 2020, Least: 18, Most: 70, Zones: []int64{1, 5, 9}, Jobs: []int64{3, 7, 20}}
}

// courtWith returns the court's rules after a change.
func courtWith(change func(*impl.Rules)) impl.Rules {
	r := court()
	change(&r)
	return r
}

// courtFor returns the court's rules with other ages and another year.
func courtFor(year, least, most int64) impl.Rules {
	return courtWith(func(r *impl.Rules) { r.Year, r.Least, r.Most = year, least, most })
}

// juror is a candidate against whom the court has no reason; tests change some of their fields.
func juror() impl.Candidate {
	return impl.Candidate{Person: ada(), Citizen: true, Fluent: true, Job: 4}
}

// jurorWith returns juror after a change.
func jurorWith(change func(*impl.Candidate)) impl.Candidate {
	c := juror()
	change(&c)
	return c
}

// jurorOf returns a juror of an age in the court's year.
func jurorOf(age int64) impl.Candidate {
	return jurorWith(func(c *impl.Candidate) { c.Person.Born = court().Year - age })
}

// numbersTo returns count numbers from 0 that are step apart.
func numbersTo(count, step int64) []int64 {
	var list []int64
	for i := range count {
		list = append(list, i*step)
	}
	return list
}

// goodRules returns rules, among them each value of a field at its limits.
func goodRules() map[string]impl.Rules {
	rules := map[string]impl.Rules{"the court's": court()}
	for _, n := range []int64{1900, 1901, 1999, 2100, 2199, 2200} {
		rules["year "+strconv.FormatInt(n, 10)] = courtWith(func(r *impl.Rules) { r.Year = n })
	}
	for _, ages := range [][2]int64{{0, 0}, {0, 1}, {0, 150}, {1, 150}, {50, 50}, {50, 51}, {149, 150}, {150, 150}} {
		rules["ages "+strconv.FormatInt(ages[0], 10)+" to "+strconv.FormatInt(ages[1], 10)] = courtFor(2020, ages[0], ages[1])
	}
	zones := map[string][]int64{
		"nil": nil, "none": {}, "0": {0}, "99": {99}, "0 and 99": {0, 99}, "98 and 99": {98, 99}, "0 and 1": {0, 1},
		"20 from 0": numbersTo(20, 1), "20 far apart": append(numbersTo(19, 5), 99), "19": numbersTo(19, 5),
	}
	for name, list := range zones {
		rules["zones "+name] = courtWith(func(r *impl.Rules) { r.Zones = list })
	}
	jobs := map[string][]int64{
		"nil": nil, "none": {}, "0": {0}, "20": {20}, "0 and 20": {0, 20}, "19 and 20": {19, 20}, "0 and 1": {0, 1},
		"20 from 0": numbersTo(20, 1), "20 from 1": numbersTo(21, 1)[1:], "19": numbersTo(19, 1),
	}
	for name, list := range jobs {
		rules["jobs "+name] = courtWith(func(r *impl.Rules) { r.Jobs = list })
	}
	rules["nothing at all"] = impl.Rules{Year: 1900}
	rules["everything"] = impl.Rules{Year: 2200, Least: 150, Most: 150, Zones: append(numbersTo(19, 5), 99), Jobs: numbersTo(20, 1)}
	return rules
}

// badRules returns what are rules but for one fault, and the zero value.
func badRules() map[string]impl.Rules {
	rules := map[string]impl.Rules{"zero": {}}
	for _, n := range []int64{1899, 2201, 0, 20, -2020, 5000, math.MinInt64, math.MaxInt64} {
		rules["year "+strconv.FormatInt(n, 10)] = courtWith(func(r *impl.Rules) { r.Year = n })
	}
	for _, ages := range [][2]int64{
		{-1, 70}, {151, 151}, {151, 70}, {-1, -1}, {0, -1}, {150, 151}, {0, 151}, {18, 151}, {18, 17}, {150, 149}, {1, 0}, {70, 18},
		{math.MinInt64, 70}, {math.MaxInt64, 70}, {18, math.MinInt64}, {18, math.MaxInt64}, {math.MinInt64, math.MaxInt64},
	} {
		rules["ages "+strconv.FormatInt(ages[0], 10)+" to "+strconv.FormatInt(ages[1], 10)] = courtFor(2020, ages[0], ages[1])
	}
	zones := map[string][]int64{
		"-1": {-1}, "100": {100}, "-1 and 5": {-1, 5}, "5 and 100": {5, 100}, "21": numbersTo(21, 1), "21 far apart": append(numbersTo(20, 5), 99),
		"100 of them": numbersTo(100, 1), "equal": {5, 5}, "equal at the end": {1, 5, 5}, "equal in front": {5, 5, 9}, "falling": {9, 5}, "falling at the end": {1, 9, 5}, "falling in front": {5, 1, 9},
		"the least": {math.MinInt64}, "the greatest": {math.MaxInt64}, "20 up to 100": append(numbersTo(19, 5), 100), "20 from -1": append([]int64{-1}, numbersTo(19, 5)...),
		"20, the last two equal": append(numbersTo(19, 5), 90), "20, the first two equal": append([]int64{0}, numbersTo(19, 5)...),
	}
	for name, list := range zones {
		rules["zones "+name] = courtWith(func(r *impl.Rules) { r.Zones = list })
	}
	jobs := map[string][]int64{
		"-1": {-1}, "21": {21}, "-1 and 5": {-1, 5}, "5 and 21": {5, 21}, "99": {99}, "all 21": numbersTo(21, 1), "100 of them": numbersTo(100, 1),
		"equal": {5, 5}, "equal at the end": {1, 5, 5}, "equal in front": {5, 5, 9}, "falling": {9, 5}, "falling at the end": {1, 9, 5}, "falling in front": {5, 1, 9},
		"the least": {math.MinInt64}, "the greatest": {math.MaxInt64}, "20 up to 21": append(numbersTo(19, 1), 21), "20 from -1": append([]int64{-1}, numbersTo(19, 1)...),
		"20, the last two equal": append(numbersTo(19, 1), 18), "20, the first two equal": append([]int64{0}, numbersTo(19, 1)...),
	}
	for name, list := range jobs {
		rules["jobs "+name] = courtWith(func(r *impl.Rules) { r.Jobs = list })
	}
	return rules
}

// goodCandidates returns candidates, among them each value of a field at its limits, and all that
// the court tells apart.
func goodCandidates() []impl.Candidate {
	candidates := []impl.Candidate{juror(), {Person: ada()}}
	for _, p := range personsNow() {
		candidates = append(candidates, impl.Candidate{Person: p, Citizen: true, Fluent: true})
	}
	for job := range int64(21) {
		candidates = append(candidates, jurorWith(func(c *impl.Candidate) { c.Job = job }))
	}
	for zone := range int64(100) {
		candidates = append(candidates, jurorWith(func(c *impl.Candidate) { c.Person.Zone = zone }))
	}
	for _, born := range []int64{1900, 1949, 1950, 1951, 1970, 2001, 2002, 2003, 2100} {
		for bits := range 32 {
			candidates = append(candidates, jurorWith(func(c *impl.Candidate) {
				c.Person.Born = born
				c.Person.Zone = []int64{5, 6}[bits&1]
				c.Citizen, c.Convicted, c.Fluent = bits&2 == 0, bits&4 != 0, bits&8 == 0
				c.Job = []int64{4, 3}[bits>>4]
			}))
		}
	}
	return candidates
}

// badCandidates returns what is a candidate but for one fault, and the zero value.
func badCandidates() []impl.Candidate {
	candidates := []impl.Candidate{{}}
	for _, job := range []int64{-1, 21, 100, -21, math.MinInt64, math.MaxInt64} {
		candidates = append(candidates, jurorWith(func(c *impl.Candidate) { c.Job = job }))
	}
	for _, p := range noPersons() {
		candidates = append(candidates, jurorWith(func(c *impl.Candidate) { c.Person = p }))
	}
	return candidates
}

// candidateLists returns lists of all lengths that matter, cut from all candidates.
func candidateLists() map[string][]impl.Candidate {
	lists := map[string][]impl.Candidate{
		"nil": nil, "empty": {}, "60 times the same": repeated(60, juror()), "60 who are not qualified": repeated(60, impl.Candidate{Person: ada()}),
		"somebody twice": {juror(), juror()}, "the last one": append(repeated(59, impl.Candidate{Person: ada()}), juror()), "all but the last one": append(repeated(59, juror()), impl.Candidate{Person: ada()}),
	}
	all := goodCandidates()
	rand.New(rand.NewPCG(6, 6)).Shuffle(len(all), func(i, j int) { all[i], all[j] = all[j], all[i] })
	for _, n := range []int{1, 2, 3, 7, 59, 60} {
		for at := 0; at+n <= len(all) && at < 6*n; at += n {
			lists[strconv.Itoa(n)+" from "+strconv.Itoa(at)] = all[at : at+n]
		}
	}
	return lists
}

// badCandidateLists returns lists that are too long, or in which one is no candidate.
func badCandidateLists() map[string][]impl.Candidate {
	lists := map[string][]impl.Candidate{
		"61 candidates": repeated(61, juror()), "1000 candidates": repeated(1000, juror()), "61 who are no candidates": repeated(61, impl.Candidate{}),
		"61, the last one is none": append(repeated(60, juror()), impl.Candidate{}),
	}
	for i, no := range badCandidates() {
		name := strconv.Itoa(i)
		lists["alone "+name] = []impl.Candidate{no}
		lists["first "+name] = []impl.Candidate{no, juror(), juror()}
		lists["inside "+name] = []impl.Candidate{juror(), no, juror()}
		lists["last "+name] = append(repeated(59, juror()), no)
	}
	return lists
}

var reasonNumbers = map[string]int64{"young": 1, "old": 2, "zone": 4, "foreign": 8, "convicted": 16, "language": 32, "job": 64}

// refWords is an independent list of the words of all reasons against a candidate, in order.
func refWords(r impl.Rules, c impl.Candidate) []string {
	var words []string
	if c.Person.Born+r.Least > r.Year {
		words = append(words, "young")
	} else if c.Person.Born+r.Most < r.Year {
		words = append(words, "old")
	}
	if i := slices.IndexFunc(r.Zones, func(zone int64) bool { return zone >= c.Person.Zone }); i < 0 || r.Zones[i] > c.Person.Zone {
		words = append(words, "zone")
	}
	if !c.Citizen {
		words = append(words, "foreign")
	}
	if c.Convicted {
		words = append(words, "convicted")
	}
	if !c.Fluent {
		words = append(words, "language")
	}
	for _, job := range r.Jobs {
		if job == c.Job {
			words = append(words, "job")
		}
	}
	return words
}

// refReasons is an independent sum of the reasons against a candidate.
func refReasons(r impl.Rules, c impl.Candidate) int64 {
	sum := int64(0)
	for _, word := range refWords(r, c) {
		sum += reasonNumbers[word]
	}
	return sum
}

// refFrom is an independent QualifiedFrom; 0 stands for none.
func refFrom(r impl.Rules, c impl.Candidate) int64 {
	year := max(r.Year, c.Person.Born+r.Least)
	r.Year = year
	if year > 2200 || len(refWords(r, c)) > 0 {
		return 0
	}
	return year
}

func checkReasons(t *testing.T, what string, r impl.Rules, c impl.Candidate, want int64) {
	t.Helper()
	if got, code := impl.ReasonsAgainst(r, c); got != want || code != impl.ErrNone {
		t.Errorf("%s: ReasonsAgainst of %v, %v is %d, %d, want %d", what, r, c, got, code, want)
	}
	if got, code := impl.IsQualified(r, c); got != (want == 0) || code != impl.ErrNone {
		t.Errorf("%s: IsQualified of %v, %v is %t, %d, but the reasons are %d", what, r, c, got, code, want)
	}
}

// checkFrom checks QualifiedFrom, and that there is no year if want is 0.
func checkFrom(t *testing.T, what string, r impl.Rules, c impl.Candidate, want int64) {
	t.Helper()
	wantCode := int64(impl.ErrNone)
	if want == 0 {
		wantCode = impl.ErrNotFound
	}
	if got, code := impl.QualifiedFrom(r, c); got != want || code != wantCode {
		t.Errorf("%s: QualifiedFrom of %v, %v is %d, %d, want %d, %d", what, r, c, got, code, want, wantCode)
	}
}

// checkList checks QualifiedOf and CountReasons by the reasons against each candidate of a list.
func checkList(t *testing.T, what string, r impl.Rules, list []impl.Candidate) {
	t.Helper()
	var qualified []int64
	counts := make([]int64, 7)
	for i, c := range list {
		words := refWords(r, c)
		if len(words) == 0 {
			qualified = append(qualified, int64(i))
		}
		for j, word := range []string{"young", "old", "zone", "foreign", "convicted", "language", "job"} {
			if slices.Contains(words, word) {
				counts[j]++
			}
		}
	}
	if got, code := impl.QualifiedOf(r, list); !slices.Equal(got, qualified) || code != impl.ErrNone {
		t.Errorf("%s: QualifiedOf is %v, %d, want %v", what, got, code, qualified)
	}
	if got, code := impl.CountReasons(r, list); !slices.Equal(got, counts) || code != impl.ErrNone {
		t.Errorf("%s: CountReasons is %v, %d, want %v", what, got, code, counts)
	}
}

func TestConstants6(t *testing.T) {
	got := []int64{impl.MaxJob, impl.ReasonYoung, impl.ReasonOld, impl.ReasonZone, impl.ReasonForeign, impl.ReasonConvicted, impl.ReasonLanguage, impl.ReasonJob}
	want := []int64{20, 1, 2, 4, 8, 16, 32, 64}
	if !slices.Equal(got, want) {
		t.Errorf("constants are %v, want %v", got, want)
	}
}

func TestAreRules(t *testing.T) {
	for name, r := range goodRules() {
		if !impl.AreRules(r) {
			t.Errorf("%s: AreRules of %v is false", name, r)
		}
	}
	for name, r := range badRules() {
		if impl.AreRules(r) {
			t.Errorf("%s: AreRules of %v is true", name, r)
		}
	}
}

func TestAreRulesForAllAges(t *testing.T) {
	for least := int64(-2); least <= 152; least++ {
		for most := int64(-2); most <= 152; most++ {
			want := least >= 0 && most <= 150 && least <= most
			if got := impl.AreRules(courtFor(2020, least, most)); got != want {
				t.Errorf("AreRules with the ages %d and %d is %t", least, most, got)
			}
		}
	}
}

// A list of one number shows which numbers there are; one of three, whether an order is right.
func TestAreRulesForAllLists(t *testing.T) {
	for n := int64(-3); n <= 103; n++ {
		if got := impl.AreRules(courtWith(func(r *impl.Rules) { r.Zones = []int64{n} })); got != (n >= 0 && n <= 99) {
			t.Errorf("AreRules with the zone %d is %t", n, got)
		}
		if got := impl.AreRules(courtWith(func(r *impl.Rules) { r.Jobs = []int64{n} })); got != (n >= 0 && n <= 20) {
			t.Errorf("AreRules with the job %d is %t", n, got)
		}
	}
	for _, list := range listsOver(0, 3, 3) {
		want := slices.IsSorted(list) && len(slices.Compact(slices.Clone(list))) == len(list)
		zones := impl.AreRules(courtWith(func(r *impl.Rules) { r.Zones = list }))
		jobs := impl.AreRules(courtWith(func(r *impl.Rules) { r.Jobs = list }))
		if zones != want || jobs != want {
			t.Errorf("AreRules with %v is %t for zones and %t for jobs, want %t", list, zones, jobs, want)
		}
	}
	for n := range int64(30) {
		if got := impl.AreRules(courtWith(func(r *impl.Rules) { r.Zones = numbersTo(n, 1) })); got != (n <= 20) {
			t.Errorf("AreRules with %d zones is %t", n, got)
		}
		if got := impl.AreRules(courtWith(func(r *impl.Rules) { r.Jobs = numbersTo(n, 1) })); got != (n <= 20) {
			t.Errorf("AreRules with %d jobs is %t", n, got)
		}
	}
}

func TestIsCandidate(t *testing.T) {
	for _, c := range goodCandidates() {
		if !impl.IsCandidate(c) {
			t.Errorf("IsCandidate of %v is false", c)
		}
	}
	for _, c := range badCandidates() {
		if impl.IsCandidate(c) {
			t.Errorf("IsCandidate of %v is true", c)
		}
	}
}

func TestReasonsAgainst(t *testing.T) {
	cases := []struct {
		name string
		r    impl.Rules
		c    impl.Candidate
		want int64
	}{
		{"no reason", court(), juror(), 0},
		{"as old as Least", court(), jurorOf(18), 0},
		{"younger than Least by 1", court(), jurorOf(17), impl.ReasonYoung},
		{"older than Least by 1", court(), jurorOf(19), 0},
		{"as old as Most", court(), jurorOf(70), 0},
		{"older than Most by 1", court(), jurorOf(71), impl.ReasonOld},
		{"younger than Most by 1", court(), jurorOf(69), 0},
		{"not born yet", court(), jurorOf(-80), impl.ReasonYoung},
		{"born now", courtFor(1970, 0, 150), juror(), 0},
		{"born now, and only they", courtFor(1970, 0, 0), juror(), 0},
		{"born next year", courtFor(1969, 0, 150), juror(), impl.ReasonYoung},
		{"born last year", courtFor(1971, 0, 0), juror(), impl.ReasonOld},
		{"the greatest age", courtFor(2200, 0, 150), jurorWith(func(c *impl.Candidate) { c.Person.Born = 1900 }), impl.ReasonOld},
		{"the least age", courtFor(1900, 0, 150), jurorWith(func(c *impl.Candidate) { c.Person.Born = 2100 }), impl.ReasonYoung},
		{"150 years old", courtFor(2120, 150, 150), juror(), 0},
		{"151 years old", courtFor(2121, 150, 150), juror(), impl.ReasonOld},
		{"149 years old", courtFor(2119, 150, 150), juror(), impl.ReasonYoung},
		{"another zone", court(), jurorWith(func(c *impl.Candidate) { c.Person.Zone = 6 }), impl.ReasonZone},
		{"the first zone", court(), jurorWith(func(c *impl.Candidate) { c.Person.Zone = 1 }), 0},
		{"the last zone", court(), jurorWith(func(c *impl.Candidate) { c.Person.Zone = 9 }), 0},
		{"a zone that is a job", court(), jurorWith(func(c *impl.Candidate) { c.Person.Zone = 3 }), impl.ReasonZone},
		{"no zones", courtWith(func(r *impl.Rules) { r.Zones = nil }), juror(), impl.ReasonZone},
		{"no zones, and zone 0", courtWith(func(r *impl.Rules) { r.Zones = nil }), jurorWith(func(c *impl.Candidate) { c.Person.Zone = 0 }), impl.ReasonZone},
		{"no citizen", court(), jurorWith(func(c *impl.Candidate) { c.Citizen = false }), impl.ReasonForeign},
		{"convicted", court(), jurorWith(func(c *impl.Candidate) { c.Convicted = true }), impl.ReasonConvicted},
		{"not fluent", court(), jurorWith(func(c *impl.Candidate) { c.Fluent = false }), impl.ReasonLanguage},
		{"the first job", court(), jurorWith(func(c *impl.Candidate) { c.Job = 3 }), impl.ReasonJob},
		{"the last job", court(), jurorWith(func(c *impl.Candidate) { c.Job = 20 }), impl.ReasonJob},
		{"a job that is a zone", court(), jurorWith(func(c *impl.Candidate) { c.Job = 5 }), 0},
		{"no job that must not serve", courtWith(func(r *impl.Rules) { r.Jobs = nil }), jurorWith(func(c *impl.Candidate) { c.Job = 0 }), 0},
		{"job 0 must not serve", courtWith(func(r *impl.Rules) { r.Jobs = []int64{0} }), jurorWith(func(c *impl.Candidate) { c.Job = 0 }), impl.ReasonJob},
		{"all but old", courtFor(1980, 18, 70), impl.Candidate{Person: impl.Person{Number: 1, First: "a", Last: "b", Born: 1970}, Convicted: true, Job: 7}, 125},
		{"all but young", courtFor(2041, 18, 70), impl.Candidate{Person: impl.Person{Number: 1, First: "a", Last: "b", Born: 1970}, Convicted: true, Job: 7}, 126},
		{"all but the age", court(), impl.Candidate{Person: impl.Person{Number: 1, First: "a", Last: "b", Born: 1970}, Convicted: true, Job: 7}, 124},
	}
	for _, c := range cases {
		checkReasons(t, c.name, c.r, c.c, c.want)
		checkReasons(t, c.name+", by the reference", c.r, c.c, refReasons(c.r, c.c))
	}
}

func TestReasonsForAllYears(t *testing.T) {
	for _, ages := range [][2]int64{{0, 0}, {0, 150}, {18, 70}, {70, 70}, {149, 150}, {150, 150}} {
		for year := int64(1900); year <= 2200; year++ {
			r := courtFor(year, ages[0], ages[1])
			for born := int64(1900); born <= 2100; born++ {
				c := jurorWith(func(c *impl.Candidate) { c.Person.Born = born })
				checkReasons(t, "all years", r, c, refReasons(r, c))
			}
		}
	}
}

func TestQualifiedOf(t *testing.T) {
	zone := jurorWith(func(c *impl.Candidate) { c.Person.Zone = 6 })
	cases := []struct {
		name   string
		list   []impl.Candidate
		want   []int64
		counts []int64
	}{
		{"nil", nil, nil, []int64{0, 0, 0, 0, 0, 0, 0}},
		{"nobody", []impl.Candidate{}, nil, []int64{0, 0, 0, 0, 0, 0, 0}},
		{"one", []impl.Candidate{juror()}, []int64{0}, []int64{0, 0, 0, 0, 0, 0, 0}},
		{"one who is not", []impl.Candidate{zone}, nil, []int64{0, 0, 1, 0, 0, 0, 0}},
		{"the second one", []impl.Candidate{zone, juror()}, []int64{1}, []int64{0, 0, 1, 0, 0, 0, 0}},
		{"around another one", []impl.Candidate{juror(), zone, juror()}, []int64{0, 2}, []int64{0, 0, 1, 0, 0, 0, 0}},
		{"one for each reason", []impl.Candidate{
			jurorOf(17), jurorOf(71), zone, jurorWith(func(c *impl.Candidate) { c.Citizen = false }),
			jurorWith(func(c *impl.Candidate) { c.Convicted = true }), jurorWith(func(c *impl.Candidate) { c.Fluent = false }), jurorWith(func(c *impl.Candidate) { c.Job = 3 }),
		}, nil, []int64{1, 1, 1, 1, 1, 1, 1}},
		{"several reasons at once", []impl.Candidate{
			{Person: ada()}, jurorOf(17), {Person: ada(), Convicted: true, Job: 3}, jurorOf(71), jurorOf(71), juror(),
		}, []int64{5}, []int64{1, 2, 0, 2, 1, 2, 1}},
		{"the most", append(repeated(59, jurorOf(90)), juror()), []int64{59}, []int64{0, 59, 0, 0, 0, 0, 0}},
		{"the most, all qualified", repeated(60, juror()), numbersTo(60, 1), []int64{0, 0, 0, 0, 0, 0, 0}},
		{"the most, none qualified", repeated(60, impl.Candidate{Person: ada(), Convicted: true, Job: 20}), nil, []int64{0, 0, 0, 60, 60, 60, 60}},
	}
	for _, c := range cases {
		if got, code := impl.QualifiedOf(court(), c.list); !slices.Equal(got, c.want) || code != impl.ErrNone {
			t.Errorf("%s: QualifiedOf is %v, %d, want %v", c.name, got, code, c.want)
		}
		if got, code := impl.CountReasons(court(), c.list); !slices.Equal(got, c.counts) || code != impl.ErrNone {
			t.Errorf("%s: CountReasons is %v, %d, want %v", c.name, got, code, c.counts)
		}
	}
}

func TestQualifiedFrom(t *testing.T) {
	born := func(year int64) impl.Candidate {
		return jurorWith(func(c *impl.Candidate) { c.Person.Born = year })
	}
	cases := []struct {
		name string
		r    impl.Rules
		c    impl.Candidate
		want int64
	}{
		{"at once", court(), juror(), 2020},
		{"at once, as old as Least", court(), jurorOf(18), 2020},
		{"at once, as old as Most", court(), jurorOf(70), 2020},
		{"next year", court(), jurorOf(17), 2021},
		{"no more, by one year", court(), jurorOf(71), 0},
		{"no more", court(), jurorOf(110), 0},
		{"years later", courtFor(1980, 18, 70), juror(), 1988},
		{"before they are born", courtFor(1900, 18, 70), born(2100), 2118},
		{"from their birth", courtFor(1900, 0, 70), born(2100), 2100},
		{"from their birth, that year only", courtFor(1900, 0, 0), born(2100), 2100},
		{"one year only", courtFor(1900, 50, 50), juror(), 2020},
		{"one year only, which is past", courtFor(2021, 50, 50), juror(), 0},
		{"at once in the last year", courtFor(2200, 100, 150), born(2100), 2200},
		{"at once in the first year", courtFor(1900, 0, 150), born(1900), 1900},
		{"in the last year", courtFor(1900, 100, 150), born(2100), 2200},
		{"behind the last year", courtFor(1900, 101, 150), born(2100), 0},
		{"in the last year, with the greatest age", courtFor(2020, 150, 150), born(2050), 2200},
		{"behind the last year, with the greatest age", courtFor(2020, 150, 150), born(2051), 0},
		{"next year, from the last but one", courtFor(2199, 100, 100), born(2100), 2200},
		{"next year, from the last one", courtFor(2200, 101, 101), born(2100), 0},
		{"past in the last year", courtFor(2200, 0, 99), born(2100), 0},
	}
	for _, c := range cases {
		checkFrom(t, c.name, c.r, c.c, c.want)
		checkFrom(t, c.name+", by the reference", c.r, c.c, refFrom(c.r, c.c))
		for name, change := range map[string]func(*impl.Candidate){
			"zone":      func(c *impl.Candidate) { c.Person.Zone = 6 },
			"foreign":   func(c *impl.Candidate) { c.Citizen = false },
			"convicted": func(c *impl.Candidate) { c.Convicted = true },
			"language":  func(c *impl.Candidate) { c.Fluent = false },
			"job":       func(c *impl.Candidate) { c.Job = 3 },
		} {
			kept := c.c
			change(&kept)
			checkFrom(t, c.name+", but kept out by "+name, c.r, kept, 0)
		}
	}
}

// The years before the one that is found are tried one by one, and it has to be found if any year is right.
func TestQualifiedFromIsTheFirstYear(t *testing.T) {
	for _, ages := range [][2]int64{{0, 0}, {0, 150}, {18, 70}, {99, 101}, {150, 150}} {
		for year := int64(1900); year <= 2200; year += 25 {
			for born := int64(1900); born <= 2100; born += 8 {
				c := jurorWith(func(c *impl.Candidate) { c.Person.Born = born })
				want := int64(0)
				for later := year; later <= 2200 && want == 0; later++ {
					if refReasons(courtFor(later, ages[0], ages[1]), c) == 0 {
						want = later
					}
				}
				checkFrom(t, "year by year", courtFor(year, ages[0], ages[1]), c, want)
			}
		}
	}
}

func TestReasonsText(t *testing.T) {
	cases := map[int64]string{
		0: "-", 1: "young", 2: "old", 4: "zone", 8: "foreign", 16: "convicted", 32: "language", 64: "job",
		3: "young,old", 65: "young,job", 96: "language,job", 12: "zone,foreign", 24: "foreign,convicted", 85: "young,zone,convicted,job", 42: "old,foreign,language",
		126: "old,zone,foreign,convicted,language,job", 63: "young,old,zone,foreign,convicted,language", 127: "young,old,zone,foreign,convicted,language,job",
	}
	for reasons, want := range cases {
		if got, code := impl.ReasonsText(reasons); got != want || code != impl.ErrNone {
			t.Errorf("ReasonsText of %d is %q, %d, want %q", reasons, got, code, want)
		}
	}
	for _, reasons := range []int64{-1, 128, 129, 255, 256, -127, -128, 1 << 32, math.MinInt64, math.MinInt64 + 1, math.MaxInt64} {
		if got, code := impl.ReasonsText(reasons); got != "" || code != impl.ErrInvalid {
			t.Errorf("ReasonsText of %d is %q, %d, want ErrInvalid", reasons, got, code)
		}
	}
}

// The sum of the numbers of the words is the sum whose text it is, for all sums.
func TestReasonsTextOfAllSums(t *testing.T) {
	order := []string{"young", "old", "zone", "foreign", "convicted", "language", "job"}
	for reasons := int64(1); reasons <= 127; reasons++ {
		text, code := impl.ReasonsText(reasons)
		sum, last := int64(0), -1
		for _, word := range strings.Split(text, ",") {
			if at := slices.Index(order, word); at <= last {
				t.Errorf("ReasonsText of %d is %q, %d, which is not in order", reasons, text, code)
			} else {
				last = at
			}
			sum += reasonNumbers[word]
		}
		if sum != reasons || code != impl.ErrNone {
			t.Errorf("ReasonsText of %d is %q, %d, which are %d", reasons, text, code, sum)
		}
	}
}

// The promise P6: candidates are qualified exactly if there is no reason against them; all functions
// agree on it, and all are held against independent reasons.
func TestQualifiedIfThereIsNoReason(t *testing.T) {
	for name, r := range goodRules() {
		for _, c := range goodCandidates() {
			reasons, words := refReasons(r, c), refWords(r, c)
			checkReasons(t, name, r, c, reasons)
			checkFrom(t, name, r, c, refFrom(r, c))
			checkList(t, name, r, []impl.Candidate{c})
			text := strings.Join(words, ",")
			if len(words) == 0 {
				text = "-"
				checkFrom(t, name+", no reason", r, c, r.Year)
			} else if year, _ := impl.QualifiedFrom(r, c); year == r.Year {
				t.Errorf("%s: %v are against %v, but QualifiedFrom is %d", name, words, c, year)
			}
			if got, code := impl.ReasonsText(reasons); got != text || code != impl.ErrNone {
				t.Errorf("%s: ReasonsText of %d is %q, %d, want %q", name, reasons, got, code, text)
			}
		}
		for what, list := range candidateLists() {
			checkList(t, name+", "+what, r, list)
		}
	}
}

// randomRules returns random rules, always the same ones for a generator in the same state.
func randomRules(g *rand.Rand) impl.Rules {
	some := func(from, most int64) []int64 {
		var list []int64
		for n := g.Int64N(most); n <= from && len(list) < 20; n += 1 + g.Int64N(most) {
			list = append(list, n)
		}
		return list
	}
	least := g.Int64N(151)
	return impl.Rules{Year: 1900 + g.Int64N(301), Least: least, Most: least + g.Int64N(151-least), Zones: some(99, 1+g.Int64N(9)), Jobs: some(20, 1+g.Int64N(9))}
}

func TestRandomRules(t *testing.T) {
	g := rand.New(rand.NewPCG(2, 6))
	for range 3000 {
		r := randomRules(g)
		if !impl.AreRules(r) {
			t.Fatalf("AreRules of %v is false", r)
		}
		var list []impl.Candidate
		for range g.Int64N(61) {
			list = append(list, impl.Candidate{
				Person:  impl.Person{Number: 1 + g.Int64N(1000000), First: "eva", Last: "tal", Born: 1900 + g.Int64N(201), Zone: g.Int64N(100)},
				Citizen: g.IntN(5) > 0, Convicted: g.IntN(5) == 0, Fluent: g.IntN(5) > 0, Job: g.Int64N(21),
			})
		}
		checkList(t, "random", r, list)
		for _, c := range list {
			checkReasons(t, "random", r, c, refReasons(r, c))
			checkFrom(t, "random", r, c, refFrom(r, c))
		}
	}
}

// checkInvalidOne checks that all functions about one candidate return ErrInvalid and zero values.
func checkInvalidOne(t *testing.T, what string, r impl.Rules, c impl.Candidate) {
	t.Helper()
	if got, code := impl.ReasonsAgainst(r, c); got != 0 || code != impl.ErrInvalid {
		t.Errorf("%s: ReasonsAgainst of %v, %v is %d, %d, want ErrInvalid", what, r, c, got, code)
	}
	if got, code := impl.IsQualified(r, c); got || code != impl.ErrInvalid {
		t.Errorf("%s: IsQualified of %v, %v is %t, %d, want ErrInvalid", what, r, c, got, code)
	}
	if got, code := impl.QualifiedFrom(r, c); got != 0 || code != impl.ErrInvalid {
		t.Errorf("%s: QualifiedFrom of %v, %v is %d, %d, want ErrInvalid", what, r, c, got, code)
	}
}

// checkInvalidList checks that all functions about a list return ErrInvalid and zero values.
func checkInvalidList(t *testing.T, what string, r impl.Rules, list []impl.Candidate) {
	t.Helper()
	if got, code := impl.QualifiedOf(r, list); len(got) != 0 || code != impl.ErrInvalid {
		t.Errorf("%s: QualifiedOf is %v, %d, want ErrInvalid", what, got, code)
	}
	if got, code := impl.CountReasons(r, list); len(got) != 0 || code != impl.ErrInvalid {
		t.Errorf("%s: CountReasons is %v, %d, want ErrInvalid", what, got, code)
	}
}

func TestQualificationByNoRules(t *testing.T) {
	for name, r := range badRules() {
		for _, c := range []impl.Candidate{juror(), {Person: ada()}, jurorOf(17), jurorOf(71), {}} {
			checkInvalidOne(t, name, r, c)
		}
		for _, list := range [][]impl.Candidate{nil, {}, {juror()}, {{}}, {{Person: ada()}}, repeated(60, juror()), repeated(61, juror())} {
			checkInvalidList(t, name, r, list)
		}
	}
}

func TestQualificationOfNoCandidates(t *testing.T) {
	rules := []impl.Rules{court(), {Year: 1900}, courtFor(2200, 150, 150), {}}
	for i, r := range rules {
		for j, no := range badCandidates() {
			checkInvalidOne(t, "rules "+strconv.Itoa(i)+", candidate "+strconv.Itoa(j), r, no)
		}
		for name, list := range badCandidateLists() {
			checkInvalidList(t, "rules "+strconv.Itoa(i)+", "+name, r, list)
		}
	}
}

// spoil overwrites a result up to its capacity.
func spoil(list []int64) {
	list = list[:cap(list)]
	for i := range list {
		list[i] = -7
	}
}

func TestResultsAreNew6(t *testing.T) {
	for name, r := range goodRules() {
		for what, list := range candidateLists() {
			qualified, _ := impl.QualifiedOf(r, list)
			counts, _ := impl.CountReasons(r, list)
			keptQualified, keptCounts := slices.Clone(qualified), slices.Clone(counts)
			again, _ := impl.QualifiedOf(r, list)
			spoil(again)
			again, _ = impl.CountReasons(r, list)
			spoil(again)
			if !slices.Equal(qualified, keptQualified) || !slices.Equal(counts, keptCounts) {
				t.Fatalf("%s, %s: results of two calls share memory", name, what)
			}
			checkList(t, name+", "+what+", again", r, list)
		}
	}
}

func equalRules(a, b impl.Rules) bool {
	return a.Year == b.Year && a.Least == b.Least && a.Most == b.Most && slices.Equal(a.Zones, b.Zones) && slices.Equal(a.Jobs, b.Jobs)
}

// withSpare returns a copy of a list with numbers in the spare capacity behind it, and all of them.
func withSpare(list []int64) (part, whole []int64) {
	whole = append(slices.Clone(list), 3, -1, 5)
	return whole[:len(list)], whole
}

func TestArgumentsAreKept6(t *testing.T) {
	lists := candidateLists()
	for name, list := range badCandidateLists() {
		lists["no candidates: "+name] = list
	}
	rules := goodRules()
	for name, r := range badRules() {
		rules["no rules: "+name] = r
	}
	for name, r := range rules {
		given := r
		var zones, jobs []int64
		given.Zones, zones = withSpare(r.Zones)
		given.Jobs, jobs = withSpare(r.Jobs)
		keptZones, keptJobs := slices.Clone(zones), slices.Clone(jobs)
		for what, list := range lists {
			spare := append(slices.Clone(list), juror(), impl.Candidate{}, juror())
			kept := slices.Clone(spare)
			part := spare[:len(list)]
			impl.AreRules(given)
			qualified, _ := impl.QualifiedOf(given, part)
			spoil(qualified)
			counts, _ := impl.CountReasons(given, part)
			spoil(counts)
			if !slices.Equal(spare, kept) {
				t.Fatalf("%s, %s: the candidates were changed: %v", name, what, spare)
			}
		}
		for _, c := range []impl.Candidate{juror(), jurorOf(17), {Person: ada()}, {}} {
			impl.ReasonsAgainst(given, c)
			impl.IsQualified(given, c)
			impl.QualifiedFrom(given, c)
		}
		if !equalRules(given, r) || !slices.Equal(zones, keptZones) || !slices.Equal(jobs, keptJobs) {
			t.Errorf("%s: the rules were changed: %v", name, given)
		}
	}
}
