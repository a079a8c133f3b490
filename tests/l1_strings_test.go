package tests

import (
	"math"
	"slices"
	"strconv"
	"strings"
	"testing"

	"loop.example/g00938/impl"
)

// long has a length and no `#`, and bytes of all other values.
func long(length int) string {
	b := make([]byte, length)
	for i := range b {
		b[i] = byte(i * 7)
		if b[i] == '#' {
			b[i] = 'x'
		}
	}
	return string(b)
}

// sumOf follows the document's rule on its own, as what Checksum has to agree with.
func sumOf(s string) int {
	h := 7
	for _, c := range []byte(s) {
		h = (41*h + int(c) + 1) % 999979
	}
	return h
}

func TestEveryNumberRoundTrips(t *testing.T) {
	for n := -999999; n <= 999999; n++ {
		s, ok := impl.FormatInt(n)
		if !ok || s != strconv.Itoa(n) {
			t.Fatalf("FormatInt(%d) = %q, %v", n, s, ok)
		}
		m, ok := impl.ParseInt(s)
		if !ok || m != n {
			t.Fatalf("ParseInt(%q) = %d, %v", s, m, ok)
		}
	}
}

func TestFormatIntOutsideLimits(t *testing.T) {
	for _, n := range []int{1000000, -1000000, 9999999, math.MaxInt32 + 1, math.MaxInt, math.MinInt, math.MinInt + 1} {
		if s, ok := impl.FormatInt(n); ok || s != "" {
			t.Errorf("FormatInt(%d) = %q, %v", n, s, ok)
		}
	}
}

func TestParseIntRejects(t *testing.T) {
	for _, s := range []string{
		"", "-", "+", "--1", "+-1", "-+1", "1-",
		"-0", "+0", "00", "000000", "01", "-01", "007", "0000001",
		"+1", "+12", "+999999",
		"1000000", "-1000000", "9999999", "18446744073709551617", "-9223372036854775808",
		" 1", "1 ", "1\n", "\t1", "1\x00", "\x001", "1 2",
		"1x", "x1", "0x1", "0b1", "1_000", "1e3", "1.0", "1,000", "\u0661", "\xff", "\u22121",
		strings.Repeat("0", 4000), strings.Repeat("9", 5000),
	} {
		if n, ok := impl.ParseInt(s); ok || n != 0 {
			t.Errorf("ParseInt(%q) = %d, %v", s, n, ok)
		}
	}
}

// TestParseIntOfShortStrings tries every string of up to 4 of the bytes that matter.
func TestParseIntOfShortStrings(t *testing.T) {
	written := map[string]int{}
	for n := -9999; n <= 9999; n++ {
		written[strconv.Itoa(n)] = n
	}
	var try func(s string)
	try = func(s string) {
		want, valid := written[s]
		if n, ok := impl.ParseInt(s); ok != valid || n != want {
			t.Errorf("ParseInt(%q) = %d, %v", s, n, ok)
		}
		if len(s) == 4 {
			return
		}
		for _, c := range "0189-+_ x" {
			try(s + string(c))
		}
	}
	try("")
}

func TestSplitString(t *testing.T) {
	for _, c := range []struct {
		s, sep string
		want   []string
	}{
		{"a,,b", ",", []string{"a", "", "b"}},
		{"", ",", []string{""}},
		{"abc", ",", []string{"abc"}},
		{",", ",", []string{"", ""}},
		{",,,", ",", []string{"", "", "", ""}},
		{",a", ",", []string{"", "a"}},
		{"a,", ",", []string{"a", ""}},
		{"a b;c d", ";", []string{"a b", "c d"}},
		{"one\ntwo\n", "\n", []string{"one", "two", ""}},
		{"a\x00b", "\x00", []string{"a", "b"}},
		{"a\xffb", "\xff", []string{"a", "b"}},
		{"\u00e9", "\xc3", []string{"", "\xa9"}},
		{"aAa", "A", []string{"a", "a"}},
	} {
		got, ok := impl.SplitString(c.s, c.sep)
		if !ok || !slices.Equal(got, c.want) {
			t.Errorf("SplitString(%q, %q) = %q, %v", c.s, c.sep, got, ok)
		}
	}
}

func TestSplitStringLimits(t *testing.T) {
	whole := long(4000)
	if got, ok := impl.SplitString(whole, "#"); !ok || !slices.Equal(got, []string{whole}) {
		t.Error("4000 bytes without a separator")
	}
	if got, ok := impl.SplitString(strings.Repeat(";", 4000), ";"); !ok || !slices.Equal(got, make([]string, 4001)) {
		t.Error("4000 separators")
	}
	for _, s := range []string{long(4001), strings.Repeat(";", 4001), long(100000)} {
		if got, ok := impl.SplitString(s, ";"); ok || len(got) != 0 {
			t.Error("split although too long", len(s))
		}
	}
	for _, sep := range []string{"", ",,", ", ", "\u00e9", "a,b"} {
		for _, s := range []string{"", "a", "a,,b", "\u00e9"} {
			if got, ok := impl.SplitString(s, sep); ok || len(got) != 0 {
				t.Errorf("SplitString(%q, %q) = %q, %v", s, sep, got, ok)
			}
		}
	}
}

func TestJoinStrings(t *testing.T) {
	for _, c := range []struct {
		parts []string
		sep   string
		want  string
	}{
		{[]string{"a", "", "b"}, ";", "a;;b"},
		{[]string{""}, ",", ""},
		{[]string{"a"}, ",", "a"},
		{[]string{"", ""}, ",", ","},
		{[]string{"", "a"}, ",", ",a"},
		{[]string{"a;b", "c"}, ",", "a;b,c"},
		{[]string{"a\n", "b"}, "\x00", "a\n\x00b"},
		{[]string{"\xfe", "\xfd"}, "\xff", "\xfe\xff\xfd"},
	} {
		got, ok := impl.JoinStrings(c.parts, c.sep)
		if !ok || got != c.want {
			t.Errorf("JoinStrings(%q, %q) = %q, %v", c.parts, c.sep, got, ok)
		}
	}
}

func TestJoinStringsRejects(t *testing.T) {
	for _, c := range []struct {
		parts []string
		sep   string
	}{
		{nil, ","},
		{[]string{}, ","},
		{nil, ""},
		{[]string{"a", "b"}, ""},
		{[]string{"a", "b"}, ",,"},
		{[]string{"a"}, ""},
		{[]string{"a"}, "\u00e9"},
		{[]string{","}, ","},
		{[]string{"a,"}, ","},
		{[]string{",a"}, ","},
		{[]string{"a,b"}, ","},
		{[]string{"a", "b", "c,d"}, ","},
		{[]string{"a", "b,c", "d"}, ","},
		{[]string{"a,b", "c"}, ","},
		{[]string{"\u00e9", "a"}, "\xa9"},
	} {
		if got, ok := impl.JoinStrings(c.parts, c.sep); ok || got != "" {
			t.Errorf("JoinStrings(%q, %q) = %q, %v", c.parts, c.sep, got, ok)
		}
	}
}

func TestJoinStringsLimits(t *testing.T) {
	for _, parts := range [][]string{
		{long(4000)},
		{long(3999), ""},
		{"", long(3999)},
		{long(2000), long(1999)},
		make([]string, 4001),
	} {
		got, ok := impl.JoinStrings(parts, "#")
		if !ok || got != strings.Join(parts, "#") || len(got) != 4000 {
			t.Error("not joined to 4000 bytes", len(parts), len(got), ok)
		}
	}
	for _, parts := range [][]string{
		{long(4001)},
		{long(4000), ""},
		{"", long(4000)},
		{long(2000), long(2000)},
		{long(5000), long(5000), "#"},
		make([]string, 4002),
		make([]string, 100000),
	} {
		if got, ok := impl.JoinStrings(parts, "#"); ok || got != "" {
			t.Error("joined although too long", len(parts), len(got))
		}
	}
}

func TestSplitAndJoinRoundTrip(t *testing.T) {
	texts := []string{"", ";", ";;", "a", "a;b", ";a;;b;", "\xff;\x00", strings.Repeat(";a", 2000), long(4000)}
	for sep := range 256 {
		for _, s := range texts {
			by := string([]byte{byte(sep)})
			parts, ok := impl.SplitString(s, by)
			if !ok || len(parts) != strings.Count(s, by)+1 {
				t.Fatalf("SplitString(%q, %q) = %q, %v", s, by, parts, ok)
			}
			if back, ok := impl.JoinStrings(parts, by); !ok || back != s {
				t.Fatalf("joined with %q to %q instead of %q", by, back, s)
			}
		}
	}
	for _, parts := range [][]string{{""}, {"", ""}, {"a"}, {"a", ""}, {"", "b"}, {"a", "", "", "b"}, {"\xff", "#"}} {
		s, ok := impl.JoinStrings(parts, ",")
		back, fine := impl.SplitString(s, ",")
		if !ok || !fine || !slices.Equal(back, parts) {
			t.Errorf("split to %q instead of %q", back, parts)
		}
	}
}

func TestLessString(t *testing.T) {
	ascending := []string{"", "\x00", "\x00\x00", "\x00a", " ", "0", "10", "9", "A", "B", "a", "a\x00", "aa", "ab", "abc", "ac", "b", "\x7f", "\x80", "\u00e9", "\uffff", "\U00010000", "\xff", "\xff\xff"}
	for i, a := range ascending {
		for j, b := range ascending {
			if impl.LessString(a, b) != (i < j) {
				t.Errorf("LessString(%q, %q) = %v", a, b, i >= j)
			}
		}
	}
	a, b := long(100000), long(100000)+"a"
	if !impl.LessString(a, b) || impl.LessString(b, a) || impl.LessString(b, b) {
		t.Error("long strings")
	}
}

func TestChecksum(t *testing.T) {
	for s, want := range map[string]int{
		"": 7, "a": 385, "\x00": 288, "\xff": 543, "ab": 15884, "ba": 15924, "beutb": 0,
		strings.Repeat("a", 4000): 237246,
	} {
		if n, ok := impl.Checksum(s); !ok || n != want {
			t.Errorf("Checksum(%q) = %d, %v", s, n, ok)
		}
	}
	for length := range 4001 {
		s := long(length)
		if n, ok := impl.Checksum(s); !ok || n != sumOf(s) {
			t.Fatalf("Checksum of %d bytes = %d, %v", length, n, ok)
		}
	}
	if n, ok := impl.Checksum("a#385"); !ok || n != sumOf("a#385") {
		t.Error("a mark within", n, ok)
	}
	for _, length := range []int{4001, 4002, 100000} {
		if n, ok := impl.Checksum(long(length)); ok || n != 0 {
			t.Error("sum of too many bytes", length, n)
		}
	}
}

func TestAppendChecksumAndVerify(t *testing.T) {
	for _, s := range []string{"", "a", "beutb", "\x00", "\xff", "a b\nc", "385", "-", long(300), long(3990)} {
		sealed, ok := impl.AppendChecksum(s)
		if !ok || sealed != s+"#"+strconv.Itoa(sumOf(s)) {
			t.Errorf("AppendChecksum(%q) = %q, %v", s, sealed, ok)
		}
		if back, ok := impl.VerifyChecksum(sealed); !ok || back != s {
			t.Errorf("VerifyChecksum(%q) = %q, %v", sealed, back, ok)
		}
	}
}

func TestAppendChecksumRejects(t *testing.T) {
	for _, s := range []string{"#", "a#", "#a", "a#b", "##", "a#385", long(3998) + "#", long(4000), long(4001), long(9000)} {
		if got, ok := impl.AppendChecksum(s); ok || got != "" {
			t.Errorf("AppendChecksum of %d bytes = %q, %v", len(s), got, ok)
		}
	}
}

// TestSealedLimits tells for each length whether the result has at most 4000 bytes, as the number
// of the digits of the checksum matters.
func TestSealedLimits(t *testing.T) {
	met := false
	for _, c := range []string{"a", "b", "c", "d"} {
		for length := 3990; length <= 4000; length++ {
			s := strings.Repeat(c, length)
			want := s + "#" + strconv.Itoa(sumOf(s))
			got, ok := impl.AppendChecksum(s)
			back, opened := impl.VerifyChecksum(want)
			if len(want) > 4000 {
				if ok || got != "" || opened || back != "" {
					t.Error("sealed or opened although too long", c, length)
				}
				continue
			}
			met = met || len(want) == 4000
			if !ok || got != want || !opened || back != s {
				t.Error("not sealed or not opened", c, length)
			}
		}
	}
	if !met {
		t.Error("no result met the limit exactly")
	}
}

func TestVerifyChecksumRejects(t *testing.T) {
	for _, s := range []string{
		"", "a", "385", "a385", "#", "a#", "##", "a##385", "#a#385",
		"a#384", "a#386", "b#385", "A#385", "#385", "aa#385",
		"a#0385", "a#+385", "a#-385", "a# 385", "a#385 ", "a#385\n", "a#385#", "a#385#385", "a#385#1", "a#3850", "a#38",
		"#07", "#+7", "#-7", "#999986", "a#1000364",
		"beutb#", "beutb#-0", "beutb#+0", "beutb#00", "beutb#999979",
		long(4001), long(4000) + "#1", long(5000) + "#" + strconv.Itoa(sumOf(long(5000))),
	} {
		if got, ok := impl.VerifyChecksum(s); ok || got != "" {
			t.Errorf("VerifyChecksum(%q) = %q, %v", s, got, ok)
		}
	}
}

// changesAt tries every other byte at a place of a checksummed string.
func changesAt(t *testing.T, sealed string, place int) {
	b := []byte(sealed)
	for c := range 256 {
		b[place] = byte(c)
		if b[place] == sealed[place] {
			continue
		}
		if got, ok := impl.VerifyChecksum(string(b)); ok || got != "" {
			t.Errorf("the byte %d changed from %d to %d is not detected", place, sealed[place], c)
		}
	}
}

func TestAnyChangedByteIsDetected(t *testing.T) {
	for _, s := range []string{"", "a", "beutb", "12", "\x00\xff", "start 7 at 600", long(256)} {
		sealed, ok := impl.AppendChecksum(s)
		if !ok {
			t.Fatalf("AppendChecksum(%q) failed", s)
		}
		for place := range len(sealed) {
			changesAt(t, sealed, place)
		}
	}
	sealed, ok := impl.AppendChecksum(long(3993))
	if !ok {
		t.Fatal("AppendChecksum of 3993 bytes failed")
	}
	for place := 0; place < len(sealed); place += 250 {
		changesAt(t, sealed, place)
	}
	for place := len(sealed) - 7; place < len(sealed); place++ {
		changesAt(t, sealed, place)
	}
}
