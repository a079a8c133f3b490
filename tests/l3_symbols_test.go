package tests

import (
	"fmt"
	"math"
	"slices"
	"strings"
	"testing"

	"loop.example/g00938/impl"
)

var whiches = []string{"north", "east", "south", "west", "upper", "lower", "middle"}
var looks = []string{"low", "high", "wet", "overgrown"}
var allSides = []string{"north", "east", "south", "west", "top", "foot", "between"}
var familyNames = []string{"rise", "hole", "rock", "water", "line"}

var familyOfWhat = map[string]string{
	"hill": "rise", "knoll": "rise", "spur": "rise",
	"pit": "hole", "hollow": "hole",
	"boulder": "rock", "cliff": "rock",
	"stream": "water", "pond": "water",
	"path": "line", "fence": "line", "wall": "line",
}

// sidesOfFamily are the first so many of the sides and those that follow.
var sidesOfFamily = map[string]string{
	"rise":  "north east south west top foot",
	"hole":  "north east south west foot",
	"rock":  "north east south west top foot between",
	"water": "north east south west",
	"line":  "north east south west",
}

// strangeWords are no words of a Feature, or those of another field.
var strangeWords = []string{
	"tree", "side", "North", "NORTH", "north ", " north", "nort", "northh", "hil", "hills", "Hill", "rise", "line",
	" ", "\x00", "\xff", "\n", "north east", "upper\n", "wet wet", "44", "between", "top", "foot", "upper", "wet", "pit",
	strings.Repeat("hill", 2000),
}

// validWords tells whether the words of a Feature are, apart from the Code, those of a valid one.
func validWords(f impl.Feature) bool {
	name, known := familyOfWhat[f.What]
	return known &&
		(f.Which == "" || slices.Contains(whiches, f.Which)) &&
		(f.Look == "" || slices.Contains(looks, f.Look)) &&
		(f.Side == "" || slices.Contains(strings.Fields(sidesOfFamily[name]), f.Side)) &&
		!(f.Side == "between" && f.Which != "")
}

// textOf writes the text of a Feature by leaving out what is empty from all that can be there.
func textOf(f impl.Feature) string {
	text := fmt.Sprintf("%d %s %s %s side %s", f.Code, f.Which, f.Look, f.What, f.Side)
	text = strings.TrimSuffix(text, " side ")
	return strings.Join(strings.Fields(text), " ")
}

// allFeatures returns every valid Feature with a Code.
func allFeatures(code int) []impl.Feature {
	all := []impl.Feature{}
	for what := range familyOfWhat {
		for _, which := range append([]string{""}, whiches...) {
			for _, look := range append([]string{""}, looks...) {
				for _, side := range append([]string{""}, allSides...) {
					f := impl.Feature{Code: code, Which: which, What: what, Look: look, Side: side}
					if validWords(f) {
						all = append(all, f)
					}
				}
			}
		}
	}
	return all
}

// sheetOfCodes returns so many valid Features with different Codes.
func sheetOfCodes(count int) []impl.Feature {
	whats := []string{"path", "hill", "boulder", "pit", "pond", "cliff", "spur", "wall", "hollow", "stream", "fence", "knoll"}
	list := []impl.Feature{}
	for i := range count {
		f := impl.Feature{Code: 31 + (i*50)%69, What: whats[i*i%len(whats)]}
		if i%2 == 1 {
			f.Which = whiches[i%len(whiches)]
		}
		if i%3 != 1 {
			f.Look = looks[i%len(looks)]
		}
		if i%4 != 2 {
			f.Side = allSides[i%4]
		}
		list = append(list, f)
	}
	return list
}

func TestEveryFeatureRoundTrips(t *testing.T) {
	for code := 31; code <= 99; code++ {
		for _, f := range allFeatures(code) {
			if !impl.IsFeature(f) {
				t.Fatalf("%v is not valid", f)
			}
			text, ok := impl.FeatureText(f)
			if !ok || text != textOf(f) {
				t.Fatalf("FeatureText(%v) = %q, %v", f, text, ok)
			}
			if back, ok := impl.ParseFeature(text); !ok || back != f {
				t.Fatalf("ParseFeature(%q) = %v, %v", text, back, ok)
			}
		}
	}
}

func TestFeatureExamples(t *testing.T) {
	for text, f := range map[string]impl.Feature{
		"44 upper wet pit side foot":       {Code: 44, Which: "upper", What: "pit", Look: "wet", Side: "foot"},
		"31 hill":                          {Code: 31, What: "hill"},
		"99 north wall side north":         {Code: 99, Which: "north", What: "wall", Side: "north"},
		"50 boulder side between":          {Code: 50, What: "boulder", Side: "between"},
		"50 high cliff side between":       {Code: 50, What: "cliff", Look: "high", Side: "between"},
		"77 middle overgrown fence":        {Code: 77, Which: "middle", What: "fence", Look: "overgrown"},
		"32 low knoll side top":            {Code: 32, What: "knoll", Look: "low", Side: "top"},
		"60 west pond side east":           {Code: 60, Which: "west", What: "pond", Side: "east"},
		"61 lower spur":                    {Code: 61, Which: "lower", What: "spur"},
		"62 east wet stream side south":    {Code: 62, Which: "east", What: "stream", Look: "wet", Side: "south"},
		"63 south hollow side foot":        {Code: 63, Which: "south", What: "hollow", Side: "foot"},
		"64 upper overgrown path":          {Code: 64, Which: "upper", What: "path", Look: "overgrown"},
		"65 middle high cliff side foot":   {Code: 65, Which: "middle", What: "cliff", Look: "high", Side: "foot"},
		"66 lower low boulder side top":    {Code: 66, Which: "lower", What: "boulder", Look: "low", Side: "top"},
		"67 north high hill side west":     {Code: 67, Which: "north", What: "hill", Look: "high", Side: "west"},
		"68 upper overgrown knoll":         {Code: 68, Which: "upper", What: "knoll", Look: "overgrown"},
		"69 wet pond":                      {Code: 69, What: "pond", Look: "wet"},
		"70 east overgrown wall side east": {Code: 70, Which: "east", What: "wall", Look: "overgrown", Side: "east"},
	} {
		got, ok := impl.FeatureText(f)
		if !impl.IsFeature(f) || !ok || got != text {
			t.Errorf("FeatureText(%v) = %q, %v", f, got, ok)
		}
		if back, ok := impl.ParseFeature(text); !ok || back != f {
			t.Errorf("ParseFeature(%q) = %v, %v", text, back, ok)
		}
	}
}

// rejectsFeature checks that no function takes a Feature for valid.
func rejectsFeature(t *testing.T, f impl.Feature) {
	t.Helper()
	good := impl.Feature{Code: 40, What: "hill"}
	if impl.IsFeature(f) {
		t.Errorf("%v is valid", f)
	}
	if text, ok := impl.FeatureText(f); ok || text != "" {
		t.Errorf("FeatureText(%v) = %q, %v", f, text, ok)
	}
	for _, list := range [][]impl.Feature{{f}, {good, f}, {f, good}} {
		if text, ok := impl.SheetText(list); ok || text != "" {
			t.Errorf("SheetText(%v) = %q, %v", list, text, ok)
		}
		if counts, ok := impl.CountFamilies(list); ok || len(counts) != 0 {
			t.Errorf("CountFamilies(%v) = %v, %v", list, counts, ok)
		}
	}
	for quarters := range 4 {
		if turned, ok := impl.TurnSides(f, quarters); ok || turned != (impl.Feature{}) {
			t.Errorf("TurnSides(%v, %d) = %v, %v", f, quarters, turned, ok)
		}
	}
	for _, pair := range [][2]impl.Feature{{f, good}, {good, f}, {f, f}} {
		if same, ok := impl.DoDescribe(pair[0], pair[1]); ok || same {
			t.Errorf("DoDescribe(%v) = %v, %v", pair, same, ok)
		}
	}
}

func TestInvalidFeatures(t *testing.T) {
	for _, code := range []int{math.MinInt, -31, -1, 0, 1, 9, 30, 100, 131, 310, math.MaxInt} {
		rejectsFeature(t, impl.Feature{Code: code, What: "hill"})
		rejectsFeature(t, impl.Feature{Code: code, Which: "upper", What: "pit", Look: "wet", Side: "foot"})
	}
	rejectsFeature(t, impl.Feature{})
	rejectsFeature(t, impl.Feature{Code: 44})
	rejectsFeature(t, impl.Feature{Code: 44, Which: "upper", Look: "wet", Side: "foot"})
}

func TestInvalidWordsOfFeatures(t *testing.T) {
	words := append(slices.Clone(strangeWords), "")
	words = append(words, whiches...)
	words = append(words, looks...)
	words = append(words, allSides...)
	for _, word := range words {
		for _, f := range []impl.Feature{
			{Code: 44, Which: word, What: "pit"},
			{Code: 44, Which: word, What: "boulder", Side: "between"},
			{Code: 44, Which: word, What: "boulder", Look: "low", Side: "top"},
			{Code: 44, Which: "upper", What: word},
			{Code: 44, What: word, Side: "north"},
			{Code: 44, What: "pit", Look: word, Side: "foot"},
			{Code: 44, Which: "east", What: "hill", Side: word},
			{Code: 44, What: "hill", Side: word},
			{Code: 44, What: "pit", Side: word},
			{Code: 44, What: "cliff", Side: word},
			{Code: 44, Which: "lower", What: "cliff", Side: word},
			{Code: 44, What: "pond", Side: word},
			{Code: 44, What: "fence", Look: "wet", Side: word},
		} {
			if !validWords(f) {
				rejectsFeature(t, f)
			} else if !impl.IsFeature(f) {
				t.Errorf("%v is not valid", f)
			}
		}
	}
}

func TestSidesThatAFamilyLacks(t *testing.T) {
	for what, name := range familyOfWhat {
		for _, side := range allSides {
			f := impl.Feature{Code: 80, What: what, Side: side}
			if !slices.Contains(strings.Fields(sidesOfFamily[name]), side) {
				rejectsFeature(t, f)
			} else if !impl.IsFeature(f) {
				t.Errorf("%v is not valid", f)
			}
		}
	}
}

func TestFamilyOfAndSidesFor(t *testing.T) {
	for what, name := range familyOfWhat {
		if got, ok := impl.FamilyOf(what); !ok || got != name {
			t.Errorf("FamilyOf(%q) = %q, %v", what, got, ok)
		}
		sides, ok := impl.SidesFor(what)
		if !ok || !slices.Equal(sides, strings.Fields(sidesOfFamily[name])) {
			t.Errorf("SidesFor(%q) = %q, %v", what, sides, ok)
		}
		for i := range sides {
			sides[i] = "changed"
		}
		if again, _ := impl.SidesFor(what); !slices.Equal(again, strings.Fields(sidesOfFamily[name])) {
			t.Errorf("SidesFor(%q) changed to %q", what, again)
		}
	}
	words := append(slices.Clone(familyNames), "")
	words = append(words, strangeWords...)
	words = append(words, oddStrings()...)
	words = append(words, "north", "low", "hill ", " hill", "hill\n", "hill knoll", "hill, knoll", "hi")
	for _, word := range words {
		if _, known := familyOfWhat[word]; known {
			continue
		}
		if name, ok := impl.FamilyOf(word); ok || name != "" {
			t.Errorf("FamilyOf(%q) = %q, %v", word, name, ok)
		}
		if sides, ok := impl.SidesFor(word); ok || len(sides) != 0 {
			t.Errorf("SidesFor(%q) = %q, %v", word, sides, ok)
		}
	}
}

func TestParseFeatureRejects(t *testing.T) {
	for _, s := range []string{
		"", " ", "44", "44 ", " hill", "hill", "hill 44", "44  hill", " 44 hill", "44 hill ", "44 hill\n", "44\thill",
		"044 hill", "+44 hill", "-44 hill", "0 hill", "30 hill", "100 hill", "4 hill", "44.0 hill", "4x hill", "999999999999999999999 hill",
		"44 upper", "44 wet", "44 upper wet", "44 side foot", "44 tree", "44 Hill",
		"44 wet upper pit", "44 pit upper", "44 pit wet", "44 upper pit wet", "44 side foot pit", "44 upper side foot wet pit",
		"44 pit side", "44 pit side ", "44 pit  side foot", "44 pit side  foot", "44 pit side foot ", "44 pit foot", "44 pit side foot foot",
		"44 pit side top", "44 pit side between", "44 pit side upper", "44 pit side wet", "44 pit side side", "44 pit side side foot",
		"44 pit side foot side foot", "44 pit side foot side", "44 side pit side foot",
		"44 upper boulder side between", "44 north cliff side between", "44 hill side between",
		"44 upper upper pit", "44 upper lower pit", "44 wet wet pit", "44 wet low pit", "44 pit pit", "44 pit hill",
		"44 upper  pit", "44 upper wet  pit", "44 upper wet pit  side foot", "44 upper wet pit side  foot",
		"44 top pit", "44 foot pit", "44 between boulder", "44 44 pit", "44 pit 44",
		"1. 44 pit", "44 pit\n45 hill", "44\x00pit", "44 upper,wet pit",
		"44" + strings.Repeat(" upper", 1000) + " pit", strings.Repeat("44 pit ", 600),
	} {
		if f, ok := impl.ParseFeature(s); ok || f != (impl.Feature{}) {
			t.Errorf("ParseFeature(%q) = %v, %v", s, f, ok)
		}
	}
}

// TestParseFeatureOfShortTexts tries all rows of up to 5 of the words that matter after a Code.
func TestParseFeatureOfShortTexts(t *testing.T) {
	known := map[string]impl.Feature{}
	for _, f := range allFeatures(44) {
		known[textOf(f)] = f
	}
	words := []string{"north", "upper", "wet", "pit", "boulder", "side", "top", "foot", "between", ""}
	var try func(text string, room int)
	try = func(text string, room int) {
		want, valid := known[text]
		if f, ok := impl.ParseFeature(text); ok != valid || f != want {
			t.Errorf("ParseFeature(%q) = %v, %v", text, f, ok)
		}
		if room == 0 {
			return
		}
		for _, word := range words {
			try(text+" "+word, room-1)
		}
	}
	try("44", 5)
}

func TestParseFeatureOfChangedTexts(t *testing.T) {
	known := map[string]impl.Feature{}
	for code := 31; code <= 99; code++ {
		for _, f := range allFeatures(code) {
			known[textOf(f)] = f
		}
	}
	check := func(text string) {
		want, valid := known[text]
		if f, ok := impl.ParseFeature(text); ok != valid || f != want {
			t.Errorf("ParseFeature(%q) = %v, %v", text, f, ok)
		}
	}
	for _, text := range []string{"44 upper wet pit side foot", "31 hill", "99 boulder side between", "30 north path side west"} {
		eachTextChangedInOnePlace(text, check)
	}
}

func TestSheetText(t *testing.T) {
	pit := impl.Feature{Code: 44, Which: "upper", What: "pit", Look: "wet", Side: "foot"}
	hill := impl.Feature{Code: 31, What: "hill"}
	if text, ok := impl.SheetText([]impl.Feature{pit, hill}); !ok || text != "1. 44 upper wet pit side foot\n2. 31 hill\n" {
		t.Errorf("the sheet is %q, %v", text, ok)
	}
	for count := range 21 {
		list := sheetOfCodes(count)
		want := ""
		for i, f := range list {
			want += fmt.Sprintf("%d. %s\n", i+1, textOf(f))
		}
		if text, ok := impl.SheetText(list); !ok || text != want {
			t.Errorf("the sheet of %v is %q, %v", list, text, ok)
		}
	}
	if text, ok := impl.SheetText(nil); !ok || text != "" {
		t.Errorf("the empty sheet is %q, %v", text, ok)
	}
}

func TestSheetTextRejects(t *testing.T) {
	for _, count := range []int{21, 22, 69} {
		if text, ok := impl.SheetText(sheetOfCodes(count)); ok || text != "" {
			t.Errorf("a sheet of %d: %q", count, text)
		}
	}
	for first := range 20 {
		for second := range first {
			list := sheetOfCodes(20)
			list[first].Code = list[second].Code
			if text, ok := impl.SheetText(list); ok || text != "" {
				t.Errorf("a sheet with a Code twice: %q", text)
			}
		}
	}
	list := sheetOfCodes(20)
	for i := range list {
		spoiled := slices.Clone(list)
		spoiled[i].Code = 100
		if text, ok := impl.SheetText(spoiled); ok || text != "" {
			t.Errorf("a sheet with the Code 100: %q", text)
		}
	}
}

func TestTurnSides(t *testing.T) {
	next := map[string]string{"north": "east", "east": "south", "south": "west", "west": "north"}
	turn := func(word string) string {
		if to, ok := next[word]; ok {
			return to
		}
		return word
	}
	for _, f := range allFeatures(31) {
		want := f
		for quarters := range 4 {
			got, ok := impl.TurnSides(f, quarters)
			if !ok || got != want || !impl.IsFeature(got) {
				t.Fatalf("TurnSides(%v, %d) = %v, %v", f, quarters, got, ok)
			}
			want.Which, want.Side = turn(want.Which), turn(want.Side)
		}
		for _, quarters := range []int{math.MinInt, -4, -1, 4, 5, 8, math.MaxInt} {
			if got, ok := impl.TurnSides(f, quarters); ok || got != (impl.Feature{}) {
				t.Fatalf("TurnSides(%v, %d) = %v, %v", f, quarters, got, ok)
			}
		}
	}
}

func TestFourQuartersAreNoTurn(t *testing.T) {
	for _, f := range allFeatures(99) {
		for first := range 4 {
			// Four turns by one, two by two, and one by three after one by one.
			turned, ok := f, true
			for step := range 4 {
				var fine bool
				turned, fine = impl.TurnSides(turned, 1)
				ok = ok && fine
				if jump, _ := impl.TurnSides(f, (step+1)%4); jump != turned {
					t.Fatalf("%v turned %d times is %v", f, step+1, turned)
				}
			}
			there, fine := impl.TurnSides(f, first)
			back, again := impl.TurnSides(there, (4-first)%4)
			if !ok || !fine || !again || turned != f || back != f {
				t.Fatalf("%v turned to %v and %v", f, turned, back)
			}
		}
	}
}

func TestDoDescribe(t *testing.T) {
	all := allFeatures(31)
	for i, a := range all {
		b := a
		b.Code = 99
		if same, ok := impl.DoDescribe(a, b); !ok || !same {
			t.Fatalf("DoDescribe(%v, %v) = %v, %v", a, b, same, ok)
		}
		for j := i % 23; j < len(all); j += 23 {
			if same, ok := impl.DoDescribe(a, all[j]); !ok || same != (a == all[j]) {
				t.Fatalf("DoDescribe(%v, %v) = %v, %v", a, all[j], same, ok)
			}
		}
	}
}

func TestCountFamilies(t *testing.T) {
	for count := range 21 {
		list := sheetOfCodes(count)
		want := make([]int, 5)
		for _, f := range list {
			want[slices.Index(familyNames, familyOfWhat[f.What])]++
		}
		if got, ok := impl.CountFamilies(list); !ok || !slices.Equal(got, want) {
			t.Errorf("CountFamilies(%v) = %v, %v", list, got, ok)
		}
	}
	for what, name := range familyOfWhat {
		want := make([]int, 5)
		want[slices.Index(familyNames, name)] = 20
		list := slices.Repeat([]impl.Feature{{Code: 31, What: what}}, 20)
		if got, ok := impl.CountFamilies(list); !ok || !slices.Equal(got, want) {
			t.Errorf("equal Codes: CountFamilies(%v) = %v, %v", list, got, ok)
		}
		if got, ok := impl.CountFamilies(append(list, list[0])); ok || len(got) != 0 {
			t.Errorf("21 Features: CountFamilies(%v) = %v, %v", list, got, ok)
		}
	}
	if got, ok := impl.CountFamilies(nil); !ok || !slices.Equal(got, make([]int, 5)) {
		t.Errorf("no Features: %v, %v", got, ok)
	}
	list := sheetOfCodes(20)
	for i := range list {
		spoiled := slices.Clone(list)
		spoiled[i].Side = "under"
		if got, ok := impl.CountFamilies(spoiled); ok || len(got) != 0 {
			t.Errorf("CountFamilies(%v) = %v, %v", spoiled, got, ok)
		}
	}
}
