package impl

import (
	"iter"
	"strconv"
	"strings"
)

const MaxString = 4000
const MaxDecimal = 999999

// The modulus is a prime, so that a change of one byte, which changes the sum by less than the
// modulus at its place, is still there after all later multiplications.
const (
	sumStart   = 7
	sumFactor  = 41
	sumModulus = 999979
	sumMark    = "#"
)

// FormatInt returns the decimal representation of n and true. If n is outside
// -MaxDecimal..MaxDecimal it returns the empty string and false. The representation has no
// leading zeros; a negative number starts with `-`.
func FormatInt(n int) (string, bool) {
	if n < -MaxDecimal || n > MaxDecimal {
		return "", false
	}
	return strconv.Itoa(n), true
}

// ParseInt is the inverse of FormatInt: it returns the integer n for which FormatInt(n) is s,
// and true. For any other string, including strings with leading zeros, a leading `+`, or `-0`,
// it returns 0 and false.
func ParseInt(s string) (int, bool) {
	n, err := strconv.Atoi(s)
	if err != nil {
		return 0, false
	}
	// Atoi accepts more forms than FormatInt writes, such as "+1" and "01".
	text, ok := FormatInt(n)
	if !ok || text != s {
		return 0, false
	}
	return n, true
}

// SplitString splits s, which must have at most MaxString bytes, at every occurrence of the
// single-byte separator sep, and returns the substrings between the separators in order, and
// true. The result has one element more than s has separators, so the empty string yields one
// empty element. If s is too long or sep does not consist of exactly one byte, it returns an
// empty slice and false.
func SplitString(s string, sep string) ([]string, bool) {
	if len(s) > MaxString || len(sep) != 1 {
		return []string{}, false
	}
	parts := []string{}
	for part := range partsBetween(s, sep[0]) {
		parts = append(parts, part)
	}
	return parts, true
}

// partsBetween also yields what follows the last separator if it is empty: the parts are always
// one more than the separators.
func partsBetween(s string, sep byte) iter.Seq[string] {
	return func(yield func(string) bool) {
		from := 0
		for i := range len(s) {
			if s[i] != sep {
				continue
			}
			if !yield(s[from:i]) {
				return
			}
			from = i + 1
		}
		yield(s[from:])
	}
}

// JoinStrings is the inverse of SplitString: it returns the elements of parts concatenated with
// sep between consecutive elements, and true. It returns the empty string and false if parts is
// empty, if sep does not consist of exactly one byte, if an element contains sep, or if the
// result would have more than MaxString bytes.
func JoinStrings(parts []string, sep string) (string, bool) {
	if len(parts) == 0 || len(sep) != 1 {
		return "", false
	}
	// One more than the limit, as each part is counted with a separator, the last one too.
	room := MaxString + 1
	valid := true
check:
	for _, part := range parts {
		room -= len(part) + 1
		// Checked for each part, so that a list that is far too long costs little.
		if room < 0 {
			valid = false
			break check
		}
		for i := range len(part) {
			if part[i] == sep[0] {
				valid = false
				break check
			}
		}
	}
	if !valid {
		return "", false
	}
	return strings.Join(parts, sep), true
}

// LessString reports whether a is lexicographically less than b, comparing byte by byte; a
// proper prefix is less than the longer string.
func LessString(a string, b string) bool {
	return a < b
}

// Checksum returns the checksum of s and true. The checksum starts at 7 and is updated for
// every byte c of s, in order, to (41*h + c + 1) modulo 999979. If s has more than MaxString
// bytes, it returns 0 and false.
func Checksum(s string) (int, bool) {
	if len(s) > MaxString {
		return 0, false
	}
	h := sumStart
	for i := range len(s) {
		h = (sumFactor*h + int(s[i]) + 1) % sumModulus
	}
	return h, true
}

// AppendChecksum returns s followed by `#` and the decimal checksum of s, and true. It returns
// the empty string and false if s contains `#` or if s or the result has more than MaxString
// bytes.
func AppendChecksum(s string) (string, bool) {
	sum, ok := Checksum(s)
	if !ok || strings.Contains(s, sumMark) {
		return "", false
	}
	digits, ok := FormatInt(sum)
	if !ok || len(s)+len(sumMark)+len(digits) > MaxString {
		return "", false
	}
	return s + sumMark + digits, true
}

// VerifyChecksum is the inverse of AppendChecksum: it returns the string t for which
// AppendChecksum(t) is s, and true. If there is no such string, it returns the empty string and
// false.
func VerifyChecksum(s string) (string, bool) {
	t, _, found := strings.Cut(s, sumMark)
	if !found {
		return "", false
	}
	// The whole text is compared, so that no other writing of the right number is accepted.
	sealed, ok := AppendChecksum(t)
	if !ok || sealed != s {
		return "", false
	}
	return t, true
}
