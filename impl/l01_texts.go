package impl

import (
	"strconv"
	"strings"
)

// Error codes of all chapters.
const (
	ErrNone = iota
	ErrInvalid
	ErrRange
	ErrLimit
	ErrNotFound
	ErrState
	ErrSyntax
)

// Limits of chapter 1.
const (
	MaxValue = 1000000000000
	MaxWord  = 16
	MaxList  = 60
)

const (
	emptyListText = "-"
	listSeparator = ","
)

// IsWord reports whether s is a word.
func IsWord(s string) bool {
	if len(s) == 0 || len(s) > MaxWord {
		return false
	}
	for i := 0; i < len(s); i++ {
		if s[i] < 'a' || s[i] > 'z' {
			return false
		}
	}
	return true
}

// WordsText returns words, separated by commas, or a minus sign for none, and ErrNone.
func WordsText(words []string) (string, int64) {
	if code := wordsError(words); code != ErrNone {
		return "", code
	}
	return joinParts(words...), ErrNone
}

// ReadWords returns the words with the WordsText s, and ErrNone. It returns nil and ErrSyntax if
// there are none.
func ReadWords(s string) ([]string, int64) {
	words := splitParts(s)
	if wordsError(words) != ErrNone {
		return nil, ErrSyntax
	}
	return words, ErrNone
}

// ListText returns numbers in decimal, with a minus sign if they are negative, separated by
// commas, or a minus sign alone for none, and ErrNone.
func ListText(list []int64) (string, int64) {
	if code := listError(list); code != ErrNone {
		return "", code
	}
	parts := make([]string, len(list))
	for i, n := range list {
		parts[i] = numberText(n)
	}
	return joinParts(parts...), ErrNone
}

// ReadList returns the numbers with the ListText s, and ErrNone. It returns nil and ErrSyntax if
// there are none.
func ReadList(s string) ([]int64, int64) {
	parts := splitParts(s)
	list := make([]int64, len(parts))
	for i, part := range parts {
		n, ok := readNumber(part)
		if !ok {
			return nil, ErrSyntax
		}
		list[i] = n
	}
	if listError(list) != ErrNone {
		return nil, ErrSyntax
	}
	return list, ErrNone
}

// MoneyText returns a number of cents as a minus sign if it is negative, the whole hundreds in
// decimal, a full stop and two digits, and ErrNone.
func MoneyText(cents int64) (string, int64) {
	if !isValue(cents) {
		return "", ErrRange
	}
	sign, size := "", cents
	if cents < 0 {
		// Between -99 and -1 the whole hundreds are 0, which has no sign of its own.
		sign, size = "-", -cents
	}
	return sign + numberText(size/100) + "." + twoDigits(size%100), ErrNone
}

// ReadMoney returns the number of cents with the MoneyText s, and ErrNone. It returns 0 and
// ErrSyntax if there is none.
func ReadMoney(s string) (int64, int64) {
	whole, rest, _ := strings.Cut(s, ".")
	cents, err := strconv.ParseInt(whole+rest, 10, 64)
	if err != nil {
		return 0, ErrSyntax
	}
	// Other spellings of the same digits (signs, zeros, a misplaced full stop) differ from the text.
	if text, code := MoneyText(cents); code != ErrNone || text != s {
		return 0, ErrSyntax
	}
	return cents, ErrNone
}

// SumOf returns the sum of a list, and ErrNone. Errors: ErrLimit, last, also if it is no value.
func SumOf(list []int64) (int64, int64) {
	if code := listError(list); code != ErrNone {
		return 0, code
	}
	sum := int64(0)
	for _, n := range list {
		sum += n
	}
	if !isValue(sum) {
		return 0, ErrLimit
	}
	return sum, ErrNone
}

// wordsError returns the first error that the chapter's functions find in words.
func wordsError(words []string) int64 {
	for _, word := range words {
		if !IsWord(word) {
			return ErrInvalid
		}
	}
	if len(words) > MaxList {
		return ErrLimit
	}
	return ErrNone
}

// listError returns the first error that the chapter's functions find in a list of numbers.
func listError(list []int64) int64 {
	for _, n := range list {
		if !isValue(n) {
			return ErrRange
		}
	}
	if len(list) > MaxList {
		return ErrLimit
	}
	return ErrNone
}

func isValue(n int64) bool {
	return n >= -MaxValue && n <= MaxValue
}

// joinParts returns the text of the list whose elements have the texts parts.
func joinParts(parts ...string) string {
	if len(parts) == 0 {
		return emptyListText
	}
	return strings.Join(parts, listSeparator)
}

// splitParts returns the texts of the elements of the list with the text s.
func splitParts(s string) []string {
	if s == emptyListText {
		return nil
	}
	return strings.Split(s, listSeparator)
}

func numberText(n int64) string {
	return strconv.FormatInt(n, 10)
}

// readNumber returns the number with the numberText s, and whether there is one.
func readNumber(s string) (int64, bool) {
	n, err := strconv.ParseInt(s, 10, 64)
	// ParseInt accepts plus signs, superfluous zeros and -0 too.
	if err != nil || numberText(n) != s {
		return 0, false
	}
	return n, true
}

// twoDigits returns a number in 0..99 with exactly two digits.
func twoDigits(n int64) string {
	if n < 10 {
		return "0" + numberText(n)
	}
	return numberText(n)
}
