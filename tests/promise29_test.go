package tests

import (
	"math"
	"slices"
	"strings"
	"testing"

	"loop.example/g00938/impl"
)

// oddStrings are arguments of every kind that a function may be given, valid or not.
func oddStrings() []string {
	return []string{
		"", "a", "#", "##", "-", "-0", "+1", "01", "a#385", ",", ",,", "\n", "\x00", "\xff", "\xc3\x28", "\u00e9",
		strings.Repeat("a", 4000), strings.Repeat("#", 4000), strings.Repeat(",", 4001), strings.Repeat("9", 100000),
	}
}

func TestStringFunctionsReturnForAllArguments(t *testing.T) {
	for _, n := range []int{0, 1, -1, 999999, -999999, 1000000, -1000000, math.MaxInt, math.MinInt} {
		if s, ok := impl.FormatInt(n); !ok && s != "" {
			t.Error("FormatInt", n, s)
		}
	}
	for _, s := range oddStrings() {
		if n, ok := impl.ParseInt(s); !ok && n != 0 {
			t.Error("ParseInt", n)
		}
		if n, ok := impl.Checksum(s); !ok && n != 0 {
			t.Error("Checksum", n)
		}
		if x, ok := impl.AppendChecksum(s); !ok && x != "" {
			t.Error("AppendChecksum", x)
		}
		if x, ok := impl.VerifyChecksum(s); !ok && x != "" {
			t.Error("VerifyChecksum", x)
		}
		for _, other := range oddStrings() {
			if impl.LessString(s, other) && impl.LessString(other, s) {
				t.Errorf("both less: %q and %q", s, other)
			}
			if l, ok := impl.SplitString(s, other); !ok && len(l) != 0 {
				t.Error("SplitString", l)
			}
			if x, ok := impl.JoinStrings([]string{s, other, s}, other); !ok && x != "" {
				t.Error("JoinStrings", x)
			}
		}
	}
}

func TestJoinStringsModifiesNothing(t *testing.T) {
	for _, sep := range []string{",", ";", "", ",,"} {
		all := []string{"a", "", "b;c", "d,e", "beyond"}
		before := slices.Clone(all)
		impl.JoinStrings(all[:3], sep)
		impl.JoinStrings(all, sep)
		if !slices.Equal(all, before) {
			t.Errorf("changed to %q", all)
		}
	}
}

func TestJoinStringsReadsNothingBeyondTheLength(t *testing.T) {
	all := []string{"a", "b", "c,d"}
	if s, ok := impl.JoinStrings(all[:2], ","); !ok || s != "a,b" {
		t.Errorf("joined to %q, %v", s, ok)
	}
	if s, ok := impl.JoinStrings(all[:0], ","); ok || s != "" {
		t.Errorf("joined to %q, %v", s, ok)
	}
}

func TestSplitStringGivesNewMemory(t *testing.T) {
	first, _ := impl.SplitString("a,b,c", ",")
	first[1] = "changed"
	second, ok := impl.SplitString("a,b,c", ",")
	if !ok || !slices.Equal(second, []string{"a", "b", "c"}) {
		t.Errorf("split to %q, %v", second, ok)
	}
}
