package tests

import (
	"math"
	"regexp"
	"slices"
	"strconv"
	"strings"
	"testing"

	"loop.example/g01027/impl"
)

// repeated returns a list of n elements that are all x.
func repeated[T any](n int, x T) []T {
	list := make([]T, n)
	for i := range list {
		list[i] = x
	}
	return list
}

// textsOver returns all texts of at most length bytes of an alphabet.
func textsOver(alphabet string, length int) []string {
	texts := []string{""}
	for from := 0; length > 0; length-- {
		to := len(texts)
		for ; from < to; from++ {
			for i := range len(alphabet) {
				texts = append(texts, texts[from]+alphabet[i:i+1])
			}
		}
	}
	return texts
}

// neighbours returns the texts that differ from s by one byte that is missing, added or changed.
func neighbours(s string) []string {
	var texts []string
	for i := 0; i <= len(s); i++ {
		for _, b := range []byte("-+,.0159az Z\n\x00\xff") {
			texts = append(texts, s[:i]+string([]byte{b})+s[i:])
			if i < len(s) {
				texts = append(texts, s[:i]+string([]byte{b})+s[i+1:])
			}
		}
		if i < len(s) {
			texts = append(texts, s[:i]+s[i+1:])
		}
	}
	return texts
}

// checkWhichAre checks that a function takes all good values and no bad one, as an independent check does.
func checkWhichAre[X any](t *testing.T, what string, is, isRight func(X) bool, good, bad map[string]X) {
	t.Helper()
	for name, x := range good {
		if !isRight(x) {
			t.Fatalf("%s: the test's value for %s is none: %v", name, what, x)
		}
		if !is(x) {
			t.Errorf("%s: %s of %v is false", name, what, x)
		}
	}
	for name, x := range bad {
		if isRight(x) {
			t.Fatalf("%s: the test's value against %s is one: %v", name, what, x)
		}
		if is(x) {
			t.Errorf("%s: %s is true", name, what)
		}
	}
}

// textFunctions write and read the texts of one kind of values, and compare the values.
type textFunctions[X any] struct {
	write func(X) (string, int64)
	read  func(string) (X, int64)
	equal func(a, b X) bool
}

// check checks that a value is written as a text and recovered from it.
func (f textFunctions[X]) check(t *testing.T, what string, x X, text string) {
	t.Helper()
	if got, code := f.write(x); got != text || code != impl.ErrNone {
		t.Errorf("%s: the text of %v is %q, %d, want %q", what, x, got, code, text)
	}
	if got, code := f.read(text); !f.equal(got, x) || code != impl.ErrNone {
		t.Errorf("%s: %q is read as %v, %d, want %v", what, text, got, code, x)
	}
}

func TestConstants1(t *testing.T) {
	got := []int64{impl.ErrNone, impl.ErrInvalid, impl.ErrRange, impl.ErrLimit, impl.ErrNotFound, impl.ErrState, impl.ErrSyntax, impl.MaxValue, impl.MaxWord, impl.MaxList}
	want := []int64{0, 1, 2, 3, 4, 5, 6, 1000000000000, 16, 60}
	if !slices.Equal(got, want) {
		t.Errorf("constants are %v, want %v", got, want)
	}
}

func TestIsWord(t *testing.T) {
	words := []string{"a", "z", "m", "ada", "karl", "abcdefghijklmnop", "qrstuvwxyz", strings.Repeat("z", 16)}
	for _, s := range words {
		if !impl.IsWord(s) {
			t.Errorf("IsWord(%q) is false", s)
		}
	}
	others := []string{"", strings.Repeat("a", 17), strings.Repeat("a", 1000), "Ada", "adA", "Z", "a b", " ada", "ada ", "ada\n", "a-b", "-", "a,b", "a1", "1", "\x00", "a\x00", "`", "{", "ä", "aé", "\xff", "а"}
	for _, s := range others {
		if impl.IsWord(s) {
			t.Errorf("IsWord(%q) is true", s)
		}
	}
	for b := range 256 {
		s := string([]byte{byte(b)})
		if impl.IsWord(s) != (b >= 'a' && b <= 'z') {
			t.Errorf("IsWord(%q) is wrong", s)
		}
	}
}

func TestWordsText(t *testing.T) {
	long := strings.Repeat("q", 16)
	cases := []struct {
		name  string
		words []string
		text  string
		code  int64
	}{
		{"nil", nil, "-", impl.ErrNone},
		{"empty", []string{}, "-", impl.ErrNone},
		{"one letter", []string{"a"}, "a", impl.ErrNone},
		{"two", []string{"ada", "karl"}, "ada,karl", impl.ErrNone},
		{"order and repetition kept", []string{"z", "a", "z"}, "z,a,z", impl.ErrNone},
		{"16 letters", []string{long}, long, impl.ErrNone},
		{"17 letters", []string{long + "q"}, "", impl.ErrInvalid},
		{"empty word", []string{""}, "", impl.ErrInvalid},
		{"empty last word", []string{"a", ""}, "", impl.ErrInvalid},
		{"capital", []string{"ada", "Karl"}, "", impl.ErrInvalid},
		{"minus sign", []string{"-"}, "", impl.ErrInvalid},
		{"comma", []string{"a,b"}, "", impl.ErrInvalid},
		{"60 words", repeated(60, "ab"), strings.Repeat("ab,", 59) + "ab", impl.ErrNone},
		{"61 words", repeated(61, "ab"), "", impl.ErrLimit},
		{"61 words, the last one none", append(repeated(60, "ab"), ""), "", impl.ErrInvalid},
		{"61 words, the first one none", append([]string{"A"}, repeated(60, "ab")...), "", impl.ErrInvalid},
		{"62 words, the last one none", append(repeated(61, "ab"), "a b"), "", impl.ErrInvalid},
	}
	for _, c := range cases {
		text, code := impl.WordsText(c.words)
		if text != c.text || code != c.code {
			t.Errorf("%s: WordsText is %q, %d, want %q, %d", c.name, text, code, c.text, c.code)
		}
	}
}

func TestReadWords(t *testing.T) {
	long := strings.Repeat("q", 16)
	good := map[string][]string{
		"-":                                nil,
		"a":                                {"a"},
		"ada,karl":                         {"ada", "karl"},
		"z,a,z":                            {"z", "a", "z"},
		long:                               {long},
		strings.Repeat("ab,", 59) + "ab":   repeated(60, "ab"),
		strings.Repeat(long+",", 59) + "z": append(repeated(59, long), "z"),
	}
	for text, want := range good {
		words, code := impl.ReadWords(text)
		if code != impl.ErrNone || !slices.Equal(words, want) {
			t.Errorf("ReadWords(%q) is %q, %d, want %q", text, words, code, want)
		}
	}
	bad := []string{"", ",", "a,", ",a", "a,,b", "--", "-,-", "-,a", "a,-", "-a", " ", "a, b", " a", "a ", "a\n", "A", "a;b", "a1", long + "q", strings.Repeat("ab,", 60) + "ab", strings.Repeat(",", 1000), "\xff"}
	for _, text := range bad {
		words, code := impl.ReadWords(text)
		if code != impl.ErrSyntax || len(words) != 0 {
			t.Errorf("ReadWords(%q) is %q, %d, want ErrSyntax", text, words, code)
		}
	}
}

func TestListText(t *testing.T) {
	cases := []struct {
		name string
		list []int64
		text string
		code int64
	}{
		{"nil", nil, "-", impl.ErrNone},
		{"empty", []int64{}, "-", impl.ErrNone},
		{"zero", []int64{0}, "0", impl.ErrNone},
		{"two", []int64{1, -2}, "1,-2", impl.ErrNone},
		{"order and repetition kept", []int64{10, -1, 0, 10}, "10,-1,0,10", impl.ErrNone},
		{"least value", []int64{-1000000000000}, "-1000000000000", impl.ErrNone},
		{"greatest value", []int64{1000000000000}, "1000000000000", impl.ErrNone},
		{"one below", []int64{-1000000000001}, "", impl.ErrRange},
		{"one above", []int64{0, 1000000000001}, "", impl.ErrRange},
		{"least int64", []int64{math.MinInt64}, "", impl.ErrRange},
		{"greatest int64", []int64{math.MaxInt64}, "", impl.ErrRange},
		{"60 numbers", repeated(60, int64(-7)), strings.Repeat("-7,", 59) + "-7", impl.ErrNone},
		{"61 numbers", repeated(61, int64(-7)), "", impl.ErrLimit},
		{"61 numbers, the last one no value", append(repeated(60, int64(1)), 1000000000001), "", impl.ErrRange},
		{"62 numbers, the last one no value", append(repeated(61, int64(1)), -1000000000001), "", impl.ErrRange},
	}
	for _, c := range cases {
		text, code := impl.ListText(c.list)
		if text != c.text || code != c.code {
			t.Errorf("%s: ListText is %q, %d, want %q, %d", c.name, text, code, c.text, c.code)
		}
	}
}

func TestReadList(t *testing.T) {
	good := map[string][]int64{
		"-":                            nil,
		"0":                            {0},
		"-2":                           {-2},
		"1,-2":                         {1, -2},
		"10,-1,0,10":                   {10, -1, 0, 10},
		"-1000000000000,1000000000000": {-1000000000000, 1000000000000},
		strings.Repeat("5,", 59) + "5": repeated(60, int64(5)),
	}
	for text, want := range good {
		list, code := impl.ReadList(text)
		if code != impl.ErrNone || !slices.Equal(list, want) {
			t.Errorf("ReadList(%q) is %v, %d, want %v", text, list, code, want)
		}
	}
	bad := []string{"", ",", "1,", ",1", "1,,2", "--", "--1", "-,-", "-,1", "1,-", "+1", "+0", "-0", "00", "01", "-01", "1,02", "1_000", "0x1", "1e3", "1.0", "1 ", " 1", "1, 2", "1\n", "a", "1000000000001", "-1000000000001", "1,1000000000001", "9223372036854775808", "-9223372036854775809", "18446744073709551617", strings.Repeat("9", 1000), strings.Repeat("5,", 60) + "5", strings.Repeat(",", 1000), "١"}
	for _, text := range bad {
		list, code := impl.ReadList(text)
		if code != impl.ErrSyntax || len(list) != 0 {
			t.Errorf("ReadList(%q) is %v, %d, want ErrSyntax", text, list, code)
		}
	}
}

func TestMoneyText(t *testing.T) {
	cases := []struct {
		cents int64
		text  string
		code  int64
	}{
		{0, "0.00", impl.ErrNone},
		{1, "0.01", impl.ErrNone},
		{-1, "-0.01", impl.ErrNone},
		{9, "0.09", impl.ErrNone},
		{10, "0.10", impl.ErrNone},
		{-10, "-0.10", impl.ErrNone},
		{99, "0.99", impl.ErrNone},
		{-99, "-0.99", impl.ErrNone},
		{100, "1.00", impl.ErrNone},
		{-100, "-1.00", impl.ErrNone},
		{-101, "-1.01", impl.ErrNone},
		{-205, "-2.05", impl.ErrNone},
		{123456, "1234.56", impl.ErrNone},
		{1000000000000, "10000000000.00", impl.ErrNone},
		{-1000000000000, "-10000000000.00", impl.ErrNone},
		{999999999999, "9999999999.99", impl.ErrNone},
		{1000000000001, "", impl.ErrRange},
		{-1000000000001, "", impl.ErrRange},
		{math.MaxInt64, "", impl.ErrRange},
		{math.MinInt64, "", impl.ErrRange},
	}
	for _, c := range cases {
		text, code := impl.MoneyText(c.cents)
		if text != c.text || code != c.code {
			t.Errorf("MoneyText(%d) is %q, %d, want %q, %d", c.cents, text, code, c.text, c.code)
		}
		cents, code := impl.ReadMoney(c.text)
		if c.code == impl.ErrNone && (cents != c.cents || code != impl.ErrNone) {
			t.Errorf("ReadMoney(%q) is %d, %d, want %d", c.text, cents, code, c.cents)
		}
	}
}

func TestReadMoneySyntax(t *testing.T) {
	bad := []string{"", "-", ".", "-.", "0", "5", "205", "-205", "-0.00", "+0.05", "+2.05", "-+2.05", "--2.05", "00.05", "02.05", "-02.05", "-00.05", ".05", "-.05", "2.", "2.5", "2.050", "2.0", "20.5", "2..05", "2.0.5", ".2.05", "2.05.", "2,05", "2.-5", "2.+5", "0.-05", "2. 5", " 2.05", "2.05 ", "2.05\n", "2.0a", "1_0.00", "0x1.00", "10000000000.01", "-10000000000.01", "100000000000.00", "92233720368547758.08", "-92233720368547758.08", "184467440737095516.17", strings.Repeat("9", 1000) + ".00", "٢.٠٥"}
	for _, text := range bad {
		cents, code := impl.ReadMoney(text)
		if code != impl.ErrSyntax || cents != 0 {
			t.Errorf("ReadMoney(%q) is %d, %d, want ErrSyntax", text, cents, code)
		}
	}
}

func TestSumOf(t *testing.T) {
	most := int64(1000000000000)
	cases := []struct {
		name string
		list []int64
		sum  int64
		code int64
	}{
		{"nil", nil, 0, impl.ErrNone},
		{"empty", []int64{}, 0, impl.ErrNone},
		{"two", []int64{4, -1}, 3, impl.ErrNone},
		{"negative", []int64{-4, -5}, -9, impl.ErrNone},
		{"greatest", []int64{most - 1, 1}, most, impl.ErrNone},
		{"least", []int64{1 - most, -1}, -most, impl.ErrNone},
		{"one above", []int64{most, 1}, 0, impl.ErrLimit},
		{"one below", []int64{-most, -1}, 0, impl.ErrLimit},
		{"only partial sums too great", []int64{most, most, -most}, most, impl.ErrNone},
		{"only partial sums too small", []int64{-most, -most, most, most}, 0, impl.ErrNone},
		{"60 of the greatest", repeated(60, most), 0, impl.ErrLimit},
		{"60 numbers", repeated(60, int64(3)), 180, impl.ErrNone},
		{"61 numbers", repeated(61, int64(0)), 0, impl.ErrLimit},
		{"no value", []int64{most + 1}, 0, impl.ErrRange},
		{"no value, though the sum is one", []int64{most + 1, -1}, 0, impl.ErrRange},
		{"no value behind a sum that is too great", []int64{most, most, -most - 1}, 0, impl.ErrRange},
		{"61 numbers, the last one no value", append(repeated(60, most), most+1), 0, impl.ErrRange},
		{"sum that wraps around to 0", []int64{math.MinInt64, math.MinInt64}, 0, impl.ErrRange},
	}
	for _, c := range cases {
		sum, code := impl.SumOf(c.list)
		if sum != c.sum || code != c.code {
			t.Errorf("%s: SumOf is %d, %d, want %d, %d", c.name, sum, code, c.sum, c.code)
		}
	}
}

// Promise 1: what was written is read again.
func TestTextsAreRecovered(t *testing.T) {
	for size := range 61 {
		words, list := make([]string, size), make([]int64, size)
		for i := range size {
			words[i] = strings.Repeat(string(rune('a'+(i+size)%26)), 1+(i*7+size)%16)
			list[i] = int64(i*i*i-size*100) * 5000011
		}
		text, _ := impl.WordsText(words)
		if got, code := impl.ReadWords(text); code != impl.ErrNone || !slices.Equal(got, words) {
			t.Errorf("%q is read as %q, %d", words, got, code)
		}
		text, _ = impl.ListText(list)
		if got, code := impl.ReadList(text); code != impl.ErrNone || !slices.Equal(got, list) {
			t.Errorf("%v is read as %v, %d", list, got, code)
		}
	}
	for _, middle := range []int64{0, 99999, -99999, 999999998000, -999999998000} {
		for cents := middle - 2000; cents <= middle+2000; cents++ {
			text, _ := impl.MoneyText(cents)
			if got, code := impl.ReadMoney(text); code != impl.ErrNone || got != cents {
				t.Errorf("%d is read as %d, %d", cents, got, code)
			}
			text, _ = impl.ListText([]int64{cents})
			if got, code := impl.ReadList(text); code != impl.ErrNone || !slices.Equal(got, []int64{cents}) {
				t.Errorf("%d is read as %v, %d", cents, got, code)
			}
		}
	}
}

var (
	wordsShape = regexp.MustCompile(`\A(?:-|[a-z]{1,16}(?:,[a-z]{1,16})*)\z`)
	listShape  = regexp.MustCompile(`\A(?:-|(?:0|-?[1-9][0-9]*)(?:,(?:0|-?[1-9][0-9]*))*)\z`)
	moneyShape = regexp.MustCompile(`\A-?(?:0|[1-9][0-9]*)\.[0-9][0-9]\z`)
)

// inRange reports whether all decimal numbers of a list are values.
func inRange(text string) bool {
	for _, part := range strings.Split(text, ",") {
		n, err := strconv.ParseInt(part, 10, 64)
		if err != nil || n > 1000000000000 || n < -1000000000000 {
			return false
		}
	}
	return true
}

func checkReadWords(t *testing.T, s string) {
	words, code := impl.ReadWords(s)
	right := wordsShape.MatchString(s) && strings.Count(s, ",") < 60
	if right != (code == impl.ErrNone) || !right && (code != impl.ErrSyntax || len(words) != 0) {
		t.Errorf("ReadWords(%q) is %q, %d", s, words, code)
	}
	if text, _ := impl.WordsText(words); right && text != s {
		t.Errorf("ReadWords(%q) is %q, with the text %q", s, words, text)
	}
}

func checkReadList(t *testing.T, s string) {
	list, code := impl.ReadList(s)
	right := listShape.MatchString(s) && strings.Count(s, ",") < 60 && (s == "-" || inRange(s))
	if right != (code == impl.ErrNone) || !right && (code != impl.ErrSyntax || len(list) != 0) {
		t.Errorf("ReadList(%q) is %v, %d", s, list, code)
	}
	if text, _ := impl.ListText(list); right && text != s {
		t.Errorf("ReadList(%q) is %v, with the text %q", s, list, text)
	}
}

func checkReadMoney(t *testing.T, s string) {
	cents, code := impl.ReadMoney(s)
	right := moneyShape.MatchString(s) && s != "-0.00" && inRange(strings.ReplaceAll(s, ".", ""))
	if right != (code == impl.ErrNone) || !right && (code != impl.ErrSyntax || cents != 0) {
		t.Errorf("ReadMoney(%q) is %d, %d", s, cents, code)
	}
	if text, _ := impl.MoneyText(cents); right && text != s {
		t.Errorf("ReadMoney(%q) is %d, with the text %q", s, cents, text)
	}
}

// Promise 1: every text that is read is the one that is written, and no other text is read.
func TestReadersTakeNothingElse(t *testing.T) {
	texts := textsOver("-+,.01a ", 5)
	long := []string{"ada,karl", strings.Repeat("q", 16), strings.Repeat("a,", 59) + "a", "1,-2,30", "-1000000000000", "1000000000000,0", strings.Repeat("1,", 59) + "1", "-2.05", "-0.99", "1234.56", "10000000000.00", "-9999999999.99"}
	for _, s := range long {
		texts = append(texts, s)
		texts = append(texts, neighbours(s)...)
	}
	for _, s := range texts {
		checkReadWords(t, s)
		checkReadList(t, s)
		checkReadMoney(t, s)
	}
}

// No function changes an argument or the spare capacity behind it.
func TestArgumentsAreKept1(t *testing.T) {
	words := []string{"ada", "karl", "spare"}
	list := []int64{4, -1, 99}
	impl.WordsText(words[:2])
	impl.ListText(list[:2])
	impl.SumOf(list[:2])
	if !slices.Equal(words, []string{"ada", "karl", "spare"}) || !slices.Equal(list, []int64{4, -1, 99}) {
		t.Error("an argument was changed:", words, list)
	}
}

// Each result is new memory, so that a change to one is not seen in a later one.
func TestResultsAreNew1(t *testing.T) {
	words, _ := impl.ReadWords("ada,karl")
	list, _ := impl.ReadList("4,-1")
	words[0], list[0] = "x", 7
	again, _ := impl.ReadWords("ada,karl")
	listAgain, _ := impl.ReadList("4,-1")
	if !slices.Equal(again, []string{"ada", "karl"}) || !slices.Equal(listAgain, []int64{4, -1}) {
		t.Error("results share memory:", again, listAgain)
	}
}
