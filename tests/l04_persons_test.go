package tests

import (
	"math"
	"regexp"
	"slices"
	"strconv"
	"strings"
	"testing"

	"loop.example/g01027/impl"
)

// ada is a person in the middle of all ranges; tests change some of her fields.
func ada() impl.Person {
	return impl.Person{Number: 7, First: "ada", Last: "berg", Born: 1970, Zone: 5}
}

// changed returns ada after a change.
func changed(change func(*impl.Person)) impl.Person {
	p := ada()
	change(&p)
	return p
}

// personsNow returns ada with each value of a field at its limits, and with names of all lengths.
func personsNow() []impl.Person {
	persons := []impl.Person{ada()}
	for _, n := range []int64{1, 2, 999999, 1000000} {
		persons = append(persons, changed(func(p *impl.Person) { p.Number = n }))
	}
	for _, n := range []int64{1900, 1901, 1999, 2000, 2099, 2100} {
		persons = append(persons, changed(func(p *impl.Person) { p.Born = n }))
	}
	for _, n := range []int64{0, 1, 9, 10, 98, 99} {
		persons = append(persons, changed(func(p *impl.Person) { p.Zone = n }))
	}
	for n := 1; n <= 16; n++ {
		persons = append(persons, changed(func(p *impl.Person) { p.First = strings.Repeat("z", n) }))
		persons = append(persons, changed(func(p *impl.Person) { p.Last = strings.Repeat("a", n) }))
	}
	return append(persons,
		impl.Person{Number: 1, First: "a", Last: "a", Born: 1900, Zone: 0},
		impl.Person{Number: 1000000, First: strings.Repeat("y", 16), Last: strings.Repeat("z", 16), Born: 2100, Zone: 99})
}

// noPersons returns what is a person but for one field, and the zero value.
func noPersons() []impl.Person {
	persons := []impl.Person{{}}
	for _, n := range []int64{0, 1000001, -1, -7, 2000000, math.MinInt64, math.MaxInt64} {
		persons = append(persons, changed(func(p *impl.Person) { p.Number = n }))
	}
	for _, n := range []int64{1899, 2101, 0, 70, -1970, math.MinInt64, math.MaxInt64} {
		persons = append(persons, changed(func(p *impl.Person) { p.Born = n }))
	}
	for _, n := range []int64{-1, 100, -5, 1000, math.MinInt64, math.MaxInt64} {
		persons = append(persons, changed(func(p *impl.Person) { p.Zone = n }))
	}
	for _, s := range noNames() {
		persons = append(persons, changed(func(p *impl.Person) { p.First = s }))
		persons = append(persons, changed(func(p *impl.Person) { p.Last = s }))
	}
	return persons
}

func noNames() []string {
	return []string{"", strings.Repeat("a", 17), strings.Repeat("a", 300), "Ada", "adA", "ada ", " ada", "a da", "a/b", "/", "a-b", "-", "ada1", "7", "ada\n", "\x00", "ä", "\xff"}
}

// personsTo returns count persons; their numbers are step apart, and some of their traits are alike.
func personsTo(count int, step int64) []impl.Person {
	var list []impl.Person
	firsts := []string{"ada", "adam", "eva", "ida"}
	lasts := []string{"berg", "burg", "tal"}
	for i := range int64(count) {
		list = append(list, impl.Person{Number: 1 + i*step, First: firsts[i%4], Last: lasts[i%3], Born: 1970 + i%5, Zone: i % 2})
	}
	return list
}

// noLists returns lists that are not persons; each of them is one but for one fault.
func noLists() map[string][]impl.Person {
	lists := map[string][]impl.Person{
		"13 persons":               personsTo(13, 1),
		"100 persons":              personsTo(100, 1),
		"somebody twice":           {ada(), ada()},
		"13 times the same":        repeated(13, ada()),
		"falling":                  {personsTo(2, 5)[1], personsTo(2, 5)[0]},
		"nobody":                   {{}},
		"equal first two Numbers":  personsTo(12, 3),
		"equal last two Numbers":   personsTo(12, 3),
		"a last Number that falls": personsTo(12, 3),
		"a Number that falls":      personsTo(12, 3),
		"a first Number of 0":      personsTo(12, 3),
		"a Number of 1000001":      personsTo(12, 3),
	}
	lists["equal first two Numbers"][1].Number = 1
	lists["equal last two Numbers"][11].Number = 31
	lists["a last Number that falls"][11].Number = 30
	lists["a Number that falls"][6].Number = 12
	lists["a first Number of 0"][0].Number = 0
	lists["a Number of 1000001"][11].Number = 1000001
	for i, no := range noPersons() {
		lists["no person alone "+strconv.Itoa(i)] = []impl.Person{no}
		if no.Number == ada().Number {
			list := personsTo(12, 1)
			list[6] = no // whose Number 7 is right there
			lists["no person inside "+strconv.Itoa(i)] = list
		}
	}
	return lists
}

// goodLists returns lists that are persons.
func goodLists() map[string][]impl.Person {
	lists := map[string][]impl.Person{"nil": nil, "empty": {}}
	for n := 1; n <= 12; n++ {
		lists["in a row "+strconv.Itoa(n)] = personsTo(n, 1)
		lists["far apart "+strconv.Itoa(n)] = personsTo(n, 90909)
	}
	for i, p := range personsNow() {
		lists["alone "+strconv.Itoa(i)] = []impl.Person{p}
	}
	last := personsTo(12, 90909)
	last[11].Number = 1000000
	lists["up to the greatest Number"] = last
	return lists
}

// refSteps is an independent number of the steps from one name to another one, found row by row.
func refSteps(a, b string) int {
	row := make([]int, len(b)+1)
	for j := range row {
		row[j] = j
	}
	for i := range len(a) {
		next := []int{i + 1}
		for j := range len(b) {
			replaced := row[j]
			if a[i] != b[j] {
				replaced++
			}
			next = append(next, min(replaced, row[j+1]+1, next[j]+1))
		}
		row = next
	}
	return row[len(b)]
}

// refLikeness is an independent likeness of two persons.
func refLikeness(a, b impl.Person) int64 {
	last := map[int]int64{0: 40, 1: 25}[refSteps(a.Last, b.Last)]
	first := map[int]int64{0: 30, 1: 20}[refSteps(a.First, b.First)]
	born := map[int64]int64{0: 20, 1: 10}[max(a.Born, b.Born)-min(a.Born, b.Born)]
	zone := map[bool]int64{true: 10}[a.Zone == b.Zone]
	return last + first + born + zone
}

func checkLikeness(t *testing.T, a, b impl.Person, want int64) {
	t.Helper()
	if got, code := impl.LikenessOf(a, b); got != want || code != impl.ErrNone {
		t.Errorf("LikenessOf of %v, %v is %d, %d, want %d", a, b, got, code, want)
	}
}

func TestConstants4(t *testing.T) {
	if impl.MaxPersons != 12 {
		t.Errorf("MaxPersons is %d, want 12", impl.MaxPersons)
	}
}

func TestIsPerson(t *testing.T) {
	for _, p := range personsNow() {
		if !impl.IsPerson(p) {
			t.Errorf("IsPerson of %v is false", p)
		}
	}
	for _, p := range noPersons() {
		if impl.IsPerson(p) {
			t.Errorf("IsPerson of %v is true", p)
		}
	}
	for b := range 256 {
		isLetter := b >= 'a' && b <= 'z'
		for _, s := range []string{string([]byte{byte(b)}), string([]byte{'m', byte(b), 'm'})} {
			first := changed(func(p *impl.Person) { p.First = s })
			last := changed(func(p *impl.Person) { p.Last = s })
			if impl.IsPerson(first) != isLetter || impl.IsPerson(last) != isLetter {
				t.Errorf("IsPerson is wrong for the name %q", s)
			}
		}
	}
}

func TestArePersons(t *testing.T) {
	for name, list := range goodLists() {
		if !impl.ArePersons(list) {
			t.Errorf("%s: ArePersons is false", name)
		}
	}
	for name, list := range noLists() {
		if impl.ArePersons(list) {
			t.Errorf("%s: ArePersons is true", name)
		}
	}
	if list := personsTo(13, 1); !impl.ArePersons(list[:12]) || !impl.ArePersons(list[1:]) {
		t.Error("ArePersons looks behind the list")
	}
}

func TestLikenessOf(t *testing.T) {
	cases := []struct {
		first, last string
		born, zone  int64
		want        int64
	}{
		{"ada", "berg", 1970, 5, 100},
		{"eva", "tal", 1980, 6, 0},
		{"eva", "berg", 1980, 6, 40},
		{"eva", "bergs", 1980, 6, 25},
		{"ada", "tal", 1980, 6, 30},
		{"adam", "tal", 1980, 6, 20},
		{"eva", "tal", 1970, 6, 20},
		{"eva", "tal", 1971, 6, 10},
		{"eva", "tal", 1969, 6, 10},
		{"eva", "tal", 1972, 6, 0},
		{"eva", "tal", 1968, 6, 0},
		{"eva", "tal", 2100, 6, 0},
		{"eva", "tal", 1900, 6, 0},
		{"eva", "tal", 1980, 5, 10},
		{"eva", "tal", 1980, 4, 0},
		{"ida", "burg", 1971, 5, 65},
		{"da", "erg", 1969, 5, 65},
		{"adam", "bergs", 1968, 5, 55},
		{"ad", "ber", 1970, 4, 65},
		{"ada", "berg", 1970, 4, 90},
		{"ada", "berg", 1971, 5, 90},
		{"ada", "berg", 1972, 5, 80},
		{"adda", "berg", 1970, 5, 90},
		{"ada", "berrg", 1970, 5, 85},
		{"adammm", "berg", 1970, 5, 70},
		{"ada", "b", 1970, 5, 60},
		{"berg", "ada", 1970, 5, 30},
		{"berg", "berg", 1970, 5, 70},
	}
	for _, c := range cases {
		for _, number := range []int64{7, 1, 1000000} {
			p := impl.Person{Number: number, First: c.first, Last: c.last, Born: c.born, Zone: c.zone}
			checkLikeness(t, ada(), p, c.want)
			checkLikeness(t, p, ada(), c.want)
		}
	}
}

// Names are one step apart only if one letter was inserted, removed or replaced.
func TestLikenessOfNames(t *testing.T) {
	cases := []struct {
		from, to string
		steps    int
	}{
		{"a", "a", 0}, {"a", "b", 1}, {"a", "ab", 1}, {"a", "ba", 1}, {"a", "aa", 1}, {"a", "bb", 2}, {"a", "abc", 2},
		{"berg", "xberg", 1}, {"berg", "bexrg", 1}, {"berg", "bergx", 1}, {"berg", "bberg", 1}, {"berg", "bergg", 1},
		{"berg", "erg", 1}, {"berg", "brg", 1}, {"berg", "beg", 1}, {"berg", "ber", 1},
		{"berg", "xerg", 1}, {"berg", "bxrg", 1}, {"berg", "bexg", 1}, {"berg", "berx", 1},
		{"berg", "ebrg", 2}, {"berg", "begr", 2}, {"berg", "ergb", 2}, {"berg", "gber", 2}, {"berg", "bxxg", 2}, {"berg", "xerx", 2},
		{"berg", "rg", 2}, {"berg", "be", 2}, {"berg", "eg", 2}, {"berg", "bg", 2}, {"berg", "xbergx", 2}, {"berg", "xxberg", 2}, {"berg", "bergxx", 2},
		{"berg", "erx", 2}, {"berg", "exg", 2}, {"berg", "xrg", 2}, {"berg", "bexx", 2}, {"berg", "greb", 4}, {"berg", "tal", 4},
		{"aaaa", "aaa", 1}, {"aaaa", "aaaaa", 1}, {"aaaa", "aaba", 1}, {"aaaa", "aa", 2}, {"aaab", "baaa", 2}, {"abab", "baba", 2},
		{strings.Repeat("a", 16), strings.Repeat("a", 15), 1}, {strings.Repeat("a", 16), strings.Repeat("a", 14), 2},
		{strings.Repeat("a", 16), strings.Repeat("a", 15) + "b", 1}, {strings.Repeat("a", 16), "b" + strings.Repeat("a", 15), 1},
		{strings.Repeat("a", 16), "b" + strings.Repeat("a", 14) + "b", 2}, {strings.Repeat("a", 16), "a", 15},
	}
	for _, c := range cases {
		if got := refSteps(c.from, c.to); got != c.steps {
			t.Fatalf("%q and %q are %d steps apart for the tests, want %d", c.from, c.to, got, c.steps)
		}
		checkNames(t, c.from, c.to)
	}
}

// checkNames tries two names as first and as last names, in both orders.
func checkNames(t *testing.T, from, to string) {
	t.Helper()
	wantLast, wantFirst := int64(0), int64(0)
	switch refSteps(from, to) {
	case 0:
		wantLast, wantFirst = 40, 30
	case 1:
		wantLast, wantFirst = 25, 20
	}
	a := impl.Person{Number: 1, First: "eva", Last: from, Born: 1950, Zone: 1}
	b := impl.Person{Number: 2, First: "ulrich", Last: to, Born: 1960, Zone: 2}
	checkLikeness(t, a, b, wantLast)
	checkLikeness(t, b, a, wantLast)
	a.First, a.Last, b.First, b.Last = from, "eva", to, "ulrich"
	checkLikeness(t, a, b, wantFirst)
	checkLikeness(t, b, a, wantFirst)
	a.Last, b.Last = from, to
	checkLikeness(t, a, b, wantLast+wantFirst)
}

func TestLikenessOfAllShortNames(t *testing.T) {
	names := textsOver("ab", 5)[1:]
	for _, from := range names {
		for _, to := range names {
			checkNames(t, from, to)
		}
	}
}

func TestLikenessOfNeighbours(t *testing.T) {
	for _, name := range []string{"k", "berg", "aaaa", "abcabc", "abcdefghijklmno", "abcdefghijklmnop"} {
		for _, other := range neighbours(name) {
			if !impl.IsWord(other) {
				continue
			}
			checkNames(t, name, other)
			for _, further := range neighbours(other) {
				if impl.IsWord(further) && len(name) < 7 {
					checkNames(t, name, further)
				}
			}
		}
	}
}

func TestLikenessOfYears(t *testing.T) {
	for born := int64(1900); born <= 2100; born += 25 {
		for other := int64(1900); other <= 2100; other++ {
			a := impl.Person{Number: 1, First: "eva", Last: "tal", Born: born, Zone: 1}
			b := impl.Person{Number: 1, First: "ulrich", Last: "berg", Born: other, Zone: 2}
			checkLikeness(t, a, b, refLikeness(a, b))
		}
	}
}

// likePersons returns persons whose traits are equal, one step apart or further, in all combinations.
func likePersons() []impl.Person {
	var persons []impl.Person
	for _, first := range []string{"ada", "adam", "dam"} {
		for _, last := range []string{"berg", "bergs", "tal"} {
			for _, born := range []int64{1970, 1971, 1972} {
				for _, zone := range []int64{0, 99} {
					persons = append(persons, impl.Person{Number: int64(len(persons) + 1), First: first, Last: last, Born: born, Zone: zone})
				}
			}
		}
	}
	return persons
}

func TestLikenessOfInvalid(t *testing.T) {
	for _, no := range noPersons() {
		for _, p := range append(personsNow(), no, impl.Person{}) {
			a, one := impl.LikenessOf(no, p)
			b, two := impl.LikenessOf(p, no)
			if a != 0 || b != 0 || one != impl.ErrInvalid || two != impl.ErrInvalid {
				t.Errorf("LikenessOf of %v, %v is %d, %d and %d, %d, want ErrInvalid", no, p, a, one, b, two)
			}
		}
	}
}

// The promise P4: likeness is symmetric, and that of a person with themselves is 100.
func TestLikenessIsSymmetric(t *testing.T) {
	persons := append(personsNow(), likePersons()...)
	for _, a := range persons {
		checkLikeness(t, a, a, 100)
		for _, b := range persons {
			want := refLikeness(a, b)
			checkLikeness(t, a, b, want)
			checkLikeness(t, b, a, want)
			namesake := b
			namesake.Number = 1000001 - b.Number
			checkLikeness(t, namesake, b, 100)
			checkLikeness(t, a, namesake, want)
		}
	}
}

func TestAreAlike(t *testing.T) {
	for _, a := range likePersons()[:3] {
		for _, b := range likePersons() {
			for limit := int64(0); limit <= 100; limit++ {
				got, code := impl.AreAlike(a, b, limit)
				back, two := impl.AreAlike(b, a, limit)
				if want := refLikeness(a, b) >= limit; got != want || back != want || code != impl.ErrNone || two != impl.ErrNone {
					t.Fatalf("AreAlike of %v, %v, %d is %t, %d, want %t", a, b, limit, got, code, want)
				}
			}
		}
	}
	far := impl.Person{Number: 1, First: "ulrich", Last: "tal", Born: 1900, Zone: 0}
	if got, code := impl.AreAlike(ada(), far, 0); !got || code != impl.ErrNone {
		t.Errorf("nobody is less alike than 0, but AreAlike is %t, %d", got, code)
	}
}

func TestAreAlikeErrors(t *testing.T) {
	noLimits := []int64{-1, 101, -100, 1000, math.MinInt64, math.MaxInt64}
	for _, limit := range noLimits {
		if got, code := impl.AreAlike(ada(), ada(), limit); got || code != impl.ErrRange {
			t.Errorf("AreAlike with the limit %d is %t, %d, want ErrRange", limit, got, code)
		}
	}
	for _, no := range noPersons() {
		for _, limit := range append(noLimits, 0, 1, 100) {
			for _, pair := range [][2]impl.Person{{no, ada()}, {ada(), no}, {no, no}} {
				if got, code := impl.AreAlike(pair[0], pair[1], limit); got || code != impl.ErrInvalid {
					t.Errorf("AreAlike of %v with the limit %d is %t, %d, want ErrInvalid", pair, limit, got, code)
				}
			}
		}
	}
}

// refMostAlike is an independent index of the person who is most alike.
func refMostAlike(list []impl.Person, p impl.Person) int64 {
	for likeness := int64(100); likeness > 0; likeness -= 5 {
		for i, one := range list {
			if refLikeness(one, p) == likeness {
				return int64(i)
			}
		}
	}
	return 0
}

func TestMostAlike(t *testing.T) {
	all := append(personsNow(), likePersons()...)
	for name, list := range goodLists() {
		for _, p := range all {
			got, code := impl.MostAlike(list, p)
			if len(list) == 0 {
				if got != 0 || code != impl.ErrNotFound {
					t.Errorf("%s: MostAlike is %d, %d, want ErrNotFound", name, got, code)
				}
			} else if want := refMostAlike(list, p); got != want || code != impl.ErrNone {
				t.Errorf("%s: MostAlike of %v is %d, %d, want %d", name, p, got, code, want)
			}
		}
	}
	for at := range len(likePersons()) - 12 {
		list := likePersons()[at : at+12]
		for _, p := range all {
			if got, code := impl.MostAlike(list, p); got != refMostAlike(list, p) || code != impl.ErrNone {
				t.Errorf("MostAlike of %v among %v is %d, %d, want %d", p, list, got, code, refMostAlike(list, p))
			}
		}
	}
}

func TestMostAlikeOfSeveral(t *testing.T) {
	near := func(number, born int64) impl.Person {
		return changed(func(p *impl.Person) { p.Number, p.Born = number, born })
	}
	far := func(number int64) impl.Person {
		return impl.Person{Number: number, First: "ulrich", Last: "tal", Born: 1900, Zone: 0}
	}
	cases := []struct {
		name string
		list []impl.Person
		want int64
	}{
		{"all the same", []impl.Person{near(1, 1970), near(2, 1970), near(3, 1970)}, 0},
		{"the last two", []impl.Person{near(1, 1971), near(2, 1970), near(3, 1970)}, 1},
		{"the last one", []impl.Person{near(1, 1971), near(2, 1969), near(3, 1970)}, 2},
		{"the first and the last one", []impl.Person{near(1, 1970), near(2, 1969), near(3, 1970)}, 0},
		{"one year before and behind", []impl.Person{near(1, 1972), near(2, 1971), near(3, 1969)}, 1},
		{"nobody at all alike", []impl.Person{far(1), far(2), far(3)}, 0},
		{"one who is far and one who is near", []impl.Person{far(1), near(2, 1980)}, 1},
		{"with the same Number", []impl.Person{near(6, 1970), near(7, 1970)}, 0},
		{"with the same Number, less alike", []impl.Person{near(7, 1971), near(8, 1970)}, 1},
	}
	for _, c := range cases {
		if got, code := impl.MostAlike(c.list, ada()); got != c.want || code != impl.ErrNone {
			t.Errorf("%s: MostAlike is %d, %d, want %d", c.name, got, code, c.want)
		}
	}
}

func TestMostAlikeErrors(t *testing.T) {
	for name, list := range noLists() {
		for _, p := range []impl.Person{ada(), {}} {
			if got, code := impl.MostAlike(list, p); got != 0 || code != impl.ErrInvalid {
				t.Errorf("%s: MostAlike is %d, %d, want ErrInvalid", name, got, code)
			}
		}
	}
	for _, no := range noPersons() {
		for _, list := range [][]impl.Person{nil, {}, {ada()}, personsTo(12, 2), personsTo(13, 2)} {
			if got, code := impl.MostAlike(list, no); got != 0 || code != impl.ErrInvalid {
				t.Errorf("MostAlike of %v is %d, %d, want ErrInvalid", no, got, code)
			}
		}
	}
}

func TestFindPerson(t *testing.T) {
	for name, list := range goodLists() {
		places := map[int64]int64{}
		for i, p := range list {
			places[p.Number] = int64(i)
		}
		numbers := []int64{0, 1, -1, 1000000, 1000001, math.MinInt64, math.MaxInt64}
		for _, p := range list {
			numbers = append(numbers, p.Number-1, p.Number, p.Number+1)
		}
		for _, number := range numbers {
			want, found := places[number]
			wantCode := int64(impl.ErrNone)
			if !found {
				wantCode = impl.ErrNotFound
			}
			if got, code := impl.FindPerson(list, number); got != want || code != wantCode {
				t.Errorf("%s: FindPerson of %d is %d, %d, want %d, %d", name, number, got, code, want, wantCode)
			}
		}
	}
	for name, list := range noLists() {
		for _, number := range []int64{-1, 0, 1, 2, 7, 31, 1000000, 1000001, math.MinInt64} {
			if got, code := impl.FindPerson(list, number); got != 0 || code != impl.ErrInvalid {
				t.Errorf("%s: FindPerson of %d is %d, %d, want ErrInvalid", name, number, got, code)
			}
		}
	}
}

func TestPersonText(t *testing.T) {
	cases := []struct {
		text string
		p    impl.Person
	}{
		{"7/ada/berg/1970/5", ada()},
		{"1/a/b/1900/0", impl.Person{Number: 1, First: "a", Last: "b", Born: 1900, Zone: 0}},
		{"1000000/abcdefghijklmnop/zzzzzzzzzzzzzzzz/2100/99", impl.Person{Number: 1000000, First: "abcdefghijklmnop", Last: "zzzzzzzzzzzzzzzz", Born: 2100, Zone: 99}},
		{"100/z/a/2000/10", impl.Person{Number: 100, First: "z", Last: "a", Born: 2000, Zone: 10}},
	}
	functions := textFunctions[impl.Person]{impl.PersonText, impl.ReadPerson, func(a, b impl.Person) bool { return a == b }}
	for _, c := range cases {
		functions.check(t, "a case", c.p, c.text)
	}
	for _, no := range noPersons() {
		if text, code := impl.PersonText(no); text != "" || code != impl.ErrInvalid {
			t.Errorf("PersonText of %v is %q, %d, want ErrInvalid", no, text, code)
		}
	}
}

// The promise P1 for persons: a person is recovered from their text.
func TestPersonsAreRecovered(t *testing.T) {
	texts := map[string]impl.Person{}
	for _, p := range append(personsNow(), likePersons()...) {
		text, code := impl.PersonText(p)
		if code != impl.ErrNone {
			t.Fatalf("PersonText of %v is %q, %d", p, text, code)
		}
		if before, known := texts[text]; known && before != p {
			t.Errorf("%v and %v have the text %q", before, p, text)
		}
		texts[text] = p
		if got, code := impl.ReadPerson(text); got != p || code != impl.ErrNone {
			t.Errorf("ReadPerson of %q is %v, %d, want %v", text, got, code, p)
		}
	}
}

// personPattern matches the texts of persons, if Born is not looked at.
var personPattern = regexp.MustCompile(`\A([1-9][0-9]{0,5}|1000000)/([a-z]{1,16})/([a-z]{1,16})/([12][0-9]{3})/(0|[1-9][0-9]?)\z`)

// checkReadPerson holds ReadPerson against the pattern and reports whether s is the text of a person.
func checkReadPerson(t *testing.T, s string) bool {
	t.Helper()
	want, wantCode := impl.Person{}, int64(impl.ErrSyntax)
	m := personPattern.FindStringSubmatch(s)
	if m != nil && m[4] >= "1900" && m[4] <= "2100" {
		number, _ := strconv.Atoi(m[1])
		born, _ := strconv.Atoi(m[4])
		zone, _ := strconv.Atoi(m[5])
		want, wantCode = impl.Person{Number: int64(number), First: m[2], Last: m[3], Born: int64(born), Zone: int64(zone)}, impl.ErrNone
	}
	if got, code := impl.ReadPerson(s); got != want || code != wantCode {
		t.Errorf("ReadPerson of %q is %v, %d, want %v, %d", s, got, code, want, wantCode)
	}
	return wantCode == impl.ErrNone
}

func TestReadPersonSyntax(t *testing.T) {
	texts := []string{
		"", "/", "//", "///", "////", "/////", "-", "7", "ada", "0/a/b/0/0",
		"7/ada/berg/1970", "7/ada/berg/5", "ada/berg/1970/5", "7/ada/1970/5", "7/ada/berg/1970/5/", "/7/ada/berg/1970/5",
		"7/ada/berg/1970/5/5", "7/ada/berg/1970//5", "7//ada/berg/1970/5", "7,ada,berg,1970,5", "7 ada berg 1970 5",
		"/ada/berg/1970/5", "7//berg/1970/5", "7/ada//1970/5", "7/ada/berg//5", "7/ada/berg/1970/",
		"07/ada/berg/1970/5", "7/ada/berg/01970/5", "7/ada/berg/1970/05", "7/ada/berg/1970/00", "0000007/ada/berg/1970/5",
		"+7/ada/berg/1970/5", "7/ada/berg/+1970/5", "7/ada/berg/1970/+5", "-7/ada/berg/1970/5", "7/ada/berg/-1970/5", "7/ada/berg/1970/-5", "7/ada/berg/1970/-0",
		" 7/ada/berg/1970/5", "7 /ada/berg/1970/5", "7/ ada/berg/1970/5", "7/ada/berg /1970/5", "7/ada/berg/1970/5 ", "7/ada/berg/1970/5\n", "\n7/ada/berg/1970/5",
		"0/ada/berg/1970/5", "1000001/ada/berg/1970/5", "10000000/ada/berg/1970/5", "7/ada/berg/1899/5", "7/ada/berg/2101/5", "7/ada/berg/970/5", "7/ada/berg/1970/100", "7/ada/berg/1970/-1",
		"9223372036854775807/ada/berg/1970/5", "9223372036854775808/ada/berg/1970/5", "18446744073709551623/ada/berg/1970/5", "7/ada/berg/18446744073709553586/5", "7/ada/berg/1970/18446744073709551621", "7/ada/berg/1970/99999999999999999999999999",
		"7/Ada/berg/1970/5", "7/ada/Berg/1970/5", "7/ada/be rg/1970/5", "7/abcdefghijklmnopq/berg/1970/5", "7/ada/abcdefghijklmnopq/1970/5", "7/7/berg/1970/5", "7/ada/7/1970/5", "7/-/berg/1970/5", "7/ada/-/1970/5", "7/äda/berg/1970/5",
		"ada/7/berg/1970/5", "7/ada/1970/berg/5", "7/ada/berg/5/1970", "5/1970/berg/ada/7", "7_0/ada/berg/1970/5", "0x7/ada/berg/1970/5", "7/ada/berg/1970.0/5", "7/ada/berg/1e3/5", "7/ada/berg/1970/five",
		"7/ada/berg/1970/5" + strings.Repeat("/5", 1000), strings.Repeat("7", 100000), strings.Repeat("/", 100000),
	}
	for _, s := range texts {
		if checkReadPerson(t, s) {
			t.Errorf("%q is the text of a person for the tests", s)
		}
	}
	for _, s := range noNames() {
		checkReadPerson(t, "7/"+s+"/berg/1970/5")
		checkReadPerson(t, "7/ada/"+s+"/1970/5")
	}
}

// Every text that differs by one or two bytes from a text of a person is read only if it is one.
func TestReadPersonTakesNothingElse(t *testing.T) {
	right := 0
	for _, text := range []string{"7/ada/berg/1970/5", "1/a/b/1900/0", "1000000/z/a/2100/99", "20/abcdefghijklmnop/ab/2000/10"} {
		for _, one := range append(neighbours(text), text) {
			if checkReadPerson(t, one) {
				right++
			}
		}
		for i := range len(text) {
			for _, b := range []byte("0159a/-") {
				for _, two := range neighbours(text[:i] + string([]byte{b}) + text[i+1:]) {
					checkReadPerson(t, two)
				}
			}
		}
	}
	if right < 100 {
		t.Errorf("only %d texts of persons were tried", right)
	}
}

func TestArgumentsAreKept4(t *testing.T) {
	for name, list := range goodLists() {
		spare := append(slices.Clone(list), ada(), impl.Person{})
		kept := slices.Clone(spare)
		part := spare[:len(list)]
		impl.ArePersons(part)
		impl.MostAlike(part, ada())
		impl.FindPerson(part, 7)
		impl.FindPerson(part, 0)
		if !slices.Equal(spare, kept) {
			t.Errorf("%s: an argument was changed: %v", name, spare)
		}
	}
	for name, list := range noLists() {
		kept := slices.Clone(list)
		impl.ArePersons(list)
		impl.MostAlike(list, ada())
		impl.FindPerson(list, 7)
		if !slices.Equal(list, kept) {
			t.Errorf("%s: an argument was changed: %v", name, list)
		}
	}
}
