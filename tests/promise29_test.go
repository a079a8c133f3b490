package tests

import (
	"math"
	"slices"
	"strings"
	"testing"

	"loop.example/g00938/impl"
)

// oddStrings are arguments of every kind that a function may be given, valid or not.
func oddStrings() []string {
	return []string{
		"", "a", "#", "##", "-", "-0", "+1", "01", "a#385", ",", ",,", "\n", "\x00", "\xff", "\xc3\x28", "\u00e9",
		strings.Repeat("a", 4000), strings.Repeat("#", 4000), strings.Repeat(",", 4001), strings.Repeat("9", 100000),
	}
}

func TestStringFunctionsReturnForAllArguments(t *testing.T) {
	for _, n := range []int{0, 1, -1, 999999, -999999, 1000000, -1000000, math.MaxInt, math.MinInt} {
		if s, ok := impl.FormatInt(n); !ok && s != "" {
			t.Error("FormatInt", n, s)
		}
	}
	for _, s := range oddStrings() {
		if n, ok := impl.ParseInt(s); !ok && n != 0 {
			t.Error("ParseInt", n)
		}
		if n, ok := impl.Checksum(s); !ok && n != 0 {
			t.Error("Checksum", n)
		}
		if x, ok := impl.AppendChecksum(s); !ok && x != "" {
			t.Error("AppendChecksum", x)
		}
		if x, ok := impl.VerifyChecksum(s); !ok && x != "" {
			t.Error("VerifyChecksum", x)
		}
		for _, other := range oddStrings() {
			if impl.LessString(s, other) && impl.LessString(other, s) {
				t.Errorf("both less: %q and %q", s, other)
			}
			if l, ok := impl.SplitString(s, other); !ok && len(l) != 0 {
				t.Error("SplitString", l)
			}
			if x, ok := impl.JoinStrings([]string{s, other, s}, other); !ok && x != "" {
				t.Error("JoinStrings", x)
			}
		}
	}
}

func TestJoinStringsModifiesNothing(t *testing.T) {
	for _, sep := range []string{",", ";", "", ",,"} {
		all := []string{"a", "", "b;c", "d,e", "beyond"}
		before := slices.Clone(all)
		impl.JoinStrings(all[:3], sep)
		impl.JoinStrings(all, sep)
		if !slices.Equal(all, before) {
			t.Errorf("changed to %q", all)
		}
	}
}

func TestJoinStringsReadsNothingBeyondTheLength(t *testing.T) {
	all := []string{"a", "b", "c,d"}
	if s, ok := impl.JoinStrings(all[:2], ","); !ok || s != "a,b" {
		t.Errorf("joined to %q, %v", s, ok)
	}
	if s, ok := impl.JoinStrings(all[:0], ","); ok || s != "" {
		t.Errorf("joined to %q, %v", s, ok)
	}
}

func TestSplitStringGivesNewMemory(t *testing.T) {
	first, _ := impl.SplitString("a,b,c", ",")
	first[1] = "changed"
	second, ok := impl.SplitString("a,b,c", ",")
	if !ok || !slices.Equal(second, []string{"a", "b", "c"}) {
		t.Errorf("split to %q, %v", second, ok)
	}
}

// useMap calls every function of chapter 2 with the map.
func useMap(m impl.Map) {
	impl.IsMap(m)
	for cell := -2; cell < 50; cell++ {
		impl.CellsNextTo(m, cell)
		impl.StepTime(m, cell, cell+1)
		impl.StepTime(m, cell, cell-m.Width)
	}
	impl.OpenParts(m)
	impl.HighestCell(m)
	impl.MirrorMap(m)
	impl.TurnMap(m)
	impl.MapText(m)
}

func TestMapFunctionsModifyNothing(t *testing.T) {
	for _, m := range append(variedMaps(), invalidMaps()...) {
		rise := append(slices.Clone(m.Rise), 77, 78)
		cost := append(slices.Clone(m.Cost), 79, 80)
		given := impl.Map{Width: m.Width, Height: m.Height, Rise: rise[:len(m.Rise)], Cost: cost[:len(m.Cost)]}
		useMap(given)
		if !sameMap(given, m) || !slices.Equal(rise[len(m.Rise):], []int{77, 78}) || !slices.Equal(cost[len(m.Cost):], []int{79, 80}) {
			t.Errorf("%v changed to %v", m, given)
		}
	}
}

// spoil changes a slice up to its capacity.
func spoil(l []int) {
	l = l[:cap(l)]
	for i := range l {
		l[i] = -99
	}
}

func TestMapFunctionsGiveNewMemory(t *testing.T) {
	for _, m := range variedMaps() {
		before := copyMap(m)
		for name, change := range map[string]func(impl.Map) (impl.Map, bool){"mirrored": impl.MirrorMap, "turned": impl.TurnMap} {
			got, _ := change(m)
			want := copyMap(got)
			spoil(got.Rise)
			if !slices.Equal(got.Cost, want.Cost) || !sameMap(m, before) {
				t.Error("shared memory in what is", name)
			}
			spoil(got.Cost)
			if again, _ := change(m); !sameMap(m, before) || !sameMap(again, want) {
				t.Error("shared memory in what is", name)
			}
		}
		for cell := range m.Cost {
			next, _ := impl.CellsNextTo(m, cell)
			want := slices.Clone(next)
			spoil(next)
			if again, _ := impl.CellsNextTo(m, cell); !slices.Equal(again, want) || !sameMap(m, before) {
				t.Error("shared memory in the cells next to", cell)
			}
		}
	}
}

func TestOpenPartsShareNoMemory(t *testing.T) {
	for _, m := range variedMaps() {
		before := copyMap(m)
		want, _ := impl.OpenParts(m)
		got, _ := impl.OpenParts(m)
		for i := range got {
			spoil(got[i])
			for j := i + 1; j < len(got); j++ {
				if !slices.Equal(got[j], want[j]) {
					t.Fatalf("the parts %d and %d of %v share memory", i, j, m)
				}
			}
		}
		if again, _ := impl.OpenParts(m); !sameMap(m, before) || !slices.EqualFunc(again, want, slices.Equal) {
			t.Fatalf("the parts of %v share memory", m)
		}
	}
}

func TestParseMapReturnsForAllArguments(t *testing.T) {
	for _, s := range append(oddStrings(), strings.Repeat("##\n", 40000), strings.Repeat("\n", 200), "##"+strings.Repeat(" ##", 36)+"\n") {
		if m, ok := impl.ParseMap(s); ok || !isZeroMap(m) {
			t.Errorf("ParseMap of %d bytes = %v, %v", len(s), m, ok)
		}
	}
	m, _ := impl.ParseMap("10 20\n30 40\n")
	spoil(m.Rise)
	if !slices.Equal(m.Cost, []int{1, 2, 3, 4}) {
		t.Error("the parsed slices share memory")
	}
}

func TestFeatureFunctionsReturnForAllArguments(t *testing.T) {
	for _, s := range append(oddStrings(), strings.Repeat(" ", 5000), strings.Repeat(" side ", 5000), "44 pit side "+strings.Repeat("x", 5000)) {
		if f, ok := impl.ParseFeature(s); ok || f != (impl.Feature{}) {
			t.Errorf("ParseFeature of %d bytes = %v, %v", len(s), f, ok)
		}
		for _, f := range []impl.Feature{{Code: 31, Which: s, What: "pit"}, {Code: 31, What: s}, {Code: 31, What: "pit", Look: s}, {Code: 31, What: "pit", Side: s}} {
			text, ok := impl.FeatureText(f)
			if ok != (s == "" && f.What != "") || !ok && text != "" {
				t.Errorf("FeatureText = %q, %v", text, ok)
			}
		}
	}
}

func TestFeatureListsAreNotModified(t *testing.T) {
	for count := range 23 {
		before := sheetOfCodes(count)
		all := append(sheetOfCodes(count), impl.Feature{Code: 31, What: "beyond"}, impl.Feature{Code: 32})
		sheet, ok := impl.SheetText(all[:count])
		counts, fine := impl.CountFamilies(all[:count])
		if !slices.Equal(all[:count], before) || all[count].What != "beyond" || all[count+1].Code != 32 {
			t.Errorf("%d Features changed to %v", count, all)
		}
		// What is beyond the length is invalid, so that reading it would make the functions fail.
		if want := count <= 20; ok != want || fine != want {
			t.Errorf("%d Features: %q, %v, %v, %v", count, sheet, ok, counts, fine)
		}
		spoil(counts)
		if again, _ := impl.CountFamilies(all[:count]); fine && slices.Contains(again, -99) {
			t.Error("the counts share memory")
		}
	}
}

// useRoutes calls every function of chapter 4 with the map and lists of its cells.
func useRoutes(m impl.Map, lists [][]int) {
	for _, list := range lists {
		impl.IsRoute(m, list)
		impl.RouteTime(m, list)
		impl.RouteClimb(m, list)
	}
	for _, a := range []int{-1, 0, 1, 2, 5, 8, 14, 35, 36, math.MaxInt, math.MinInt} {
		impl.CellsWithin(m, a, 7)
		impl.FarthestCell(m, a)
		for _, b := range []int{-1, 0, 1, 3, 7, 20, 35, math.MaxInt, math.MinInt} {
			impl.LeastTime(m, a, b)
			impl.BestRoute(m, a, b)
			impl.DetourTime(m, a, 1, b)
			impl.DetourTime(m, a, b, 1)
			impl.CrossedBy(m, a, b, 2)
			impl.CrossedBy(m, a, 0, b)
		}
	}
}

func TestRouteFunctionsModifyNothing(t *testing.T) {
	for _, m := range append(routeMaps(), invalidMaps()...) {
		rise := append(slices.Clone(m.Rise), 77, 78)
		cost := append(slices.Clone(m.Cost), 79, 80)
		given := impl.Map{Width: m.Width, Height: m.Height, Rise: rise[:len(m.Rise)], Cost: cost[:len(m.Cost)]}
		all := [][]int{nil, {0}, {0, 1, 2, 3, 4, 5}, {5, 4, 3, 2, 1, 0}, {0, 0}, {3, 1, 2}, {-1, 36, math.MaxInt, math.MinInt}}
		lists := [][]int{}
		for _, list := range all {
			lists = append(lists, slices.Clone(list))
		}
		useRoutes(given, lists)
		if !sameMap(given, m) || !slices.Equal(rise[len(m.Rise):], []int{77, 78}) || !slices.Equal(cost[len(m.Cost):], []int{79, 80}) {
			t.Errorf("%v changed to %v", m, given)
		}
		if !slices.EqualFunc(lists, all, slices.Equal) {
			t.Errorf("the lists changed to %v", lists)
		}
	}
}

func TestRouteFunctionsReadNothingBeyondTheLength(t *testing.T) {
	m := flatMap(3, 3)
	all := []int{0, 1, 2, 2, 99}
	for length := 1; length <= 3; length++ {
		if is, ok := impl.IsRoute(m, all[:length]); !is || !ok {
			t.Errorf("IsRoute(%v) = %v, %v", all[:length], is, ok)
		}
		if n, ok := impl.RouteTime(m, all[:length]); n != length-1 || !ok {
			t.Errorf("RouteTime(%v) = %v, %v", all[:length], n, ok)
		}
		if n, ok := impl.RouteClimb(m, all[:length]); n != 0 || !ok {
			t.Errorf("RouteClimb(%v) = %v, %v", all[:length], n, ok)
		}
	}
	if is, ok := impl.IsRoute(m, all[:0]); is || !ok {
		t.Error("an empty list is a route", is, ok)
	}
	if !slices.Equal(all, []int{0, 1, 2, 2, 99}) {
		t.Error("the list changed to", all)
	}
}

func TestRouteFunctionsGiveNewMemory(t *testing.T) {
	for _, m := range routeMaps() {
		before := copyMap(m)
		for a := range m.Cost {
			b := len(m.Cost) - 1 - a
			for name, list := range map[string]func() ([]int, bool){
				"BestRoute":   func() ([]int, bool) { return impl.BestRoute(m, a, b) },
				"CellsWithin": func() ([]int, bool) { return impl.CellsWithin(m, a, 20) },
			} {
				got, _ := list()
				want := slices.Clone(got)
				spoil(got)
				if again, _ := list(); !slices.Equal(again, want) || !sameMap(m, before) {
					t.Error("shared memory in the result of", name)
				}
			}
		}
	}
}

// useRunners calls every function of chapter 5 that takes a list.
func useRunners(list []impl.Runner) {
	impl.AreRunners(list)
	impl.ClubsOf(list)
	impl.BiggestClub(list)
	for _, n := range append([]int{0, 1, 5, 9, 10, 19, 120, 815, 9999}, farNumbers...) {
		impl.RunnerWithCard(list, n)
		impl.AddRunner(list, sampleRunner(500, n))
		impl.AddRunner(list, impl.Runner{Id: n, Name: "ann", Club: "hill", Born: 1990})
		impl.SwapCards(list, n, 1)
		impl.SwapCards(list, 9, n)
		impl.RunnersAged(list, 0, n)
		impl.RunnersAged(list, n, 120)
	}
	for _, club := range wordsAndOthers {
		impl.ClubMembers(list, club)
	}
}

func TestRunnerFunctionsModifyNothing(t *testing.T) {
	beyond := impl.Runner{Id: -1, Name: "Beyond", Card: 77}
	for count := range 13 {
		for first := range count + 1 {
			all := append(people(count), beyond, beyond)
			// With two Runners exchanged the list is not valid.
			all[0], all[first] = all[first], all[0]
			before := slices.Clone(all)
			useRunners(all[:count])
			if !slices.Equal(all, before) {
				t.Errorf("%v changed to %v", before, all)
			}
		}
	}
}

func TestRunnerFunctionsReadNothingBeyondTheLength(t *testing.T) {
	all := people(10)
	for length := range all {
		list := all[:length]
		short := slices.Clip(slices.Clone(list))
		for _, r := range all {
			x, ok := impl.RunnerWithCard(list, r.Card)
			if want, used := impl.RunnerWithCard(short, r.Card); x != want || ok != used {
				t.Errorf("the Card %d of %d: %v, %v", r.Card, length, x, ok)
			}
			a, ok := impl.AddRunner(list, r)
			if want, valid := impl.AddRunner(short, r); !slices.Equal(a, want) || ok != valid {
				t.Errorf("%v added to %d: %v, %v", r, length, a, ok)
			}
			a, ok = impl.SwapCards(list, all[0].Id, r.Id)
			if want, valid := impl.SwapCards(short, all[0].Id, r.Id); !slices.Equal(a, want) || ok != valid {
				t.Errorf("the Card of %v swapped in %d: %v, %v", r, length, a, ok)
			}
			ids, _ := impl.ClubMembers(list, r.Club)
			if want, _ := impl.ClubMembers(short, r.Club); !slices.Equal(ids, want) {
				t.Errorf("the members of %q in %d: %v", r.Club, length, ids)
			}
		}
		ids, _ := impl.RunnersAged(list, 0, 120)
		clubs, _ := impl.ClubsOf(list)
		want, _ := impl.ClubsOf(short)
		_, most, _ := impl.BiggestClub(list)
		_, wanted, _ := impl.BiggestClub(short)
		if len(ids) != length || !slices.Equal(clubs, want) || most != wanted {
			t.Errorf("%d Runners: %v, %q, %d", length, ids, clubs, most)
		}
	}
}

func TestRunnerFunctionsGiveNewMemory(t *testing.T) {
	for count := range 11 {
		// The list has room, into which a function could write what it adds.
		list := append(make([]impl.Runner, 0, 20), people(count)...)
		before := slices.Clone(list)
		for name, change := range map[string]func() ([]impl.Runner, bool){
			"AddRunner at the end": func() ([]impl.Runner, bool) { return impl.AddRunner(list, sampleRunner(900, 3)) },
			"AddRunner before":     func() ([]impl.Runner, bool) { return impl.AddRunner(list, sampleRunner(8, 3)) },
			"SwapCards":            func() ([]impl.Runner, bool) { return impl.SwapCards(list, 1, 9) },
		} {
			got, _ := change()
			want := slices.Clone(got)
			got = got[:cap(got)]
			for i := range got {
				got[i] = impl.Runner{Id: -99, Name: "spoilt"}
			}
			if again, _ := change(); !slices.Equal(again, want) || !slices.Equal(list, before) {
				t.Errorf("%s shares memory with a list of %d", name, count)
			}
		}
		for name, ids := range map[string]func() ([]int, bool){
			"ClubMembers": func() ([]int, bool) { return impl.ClubMembers(list, "fen") },
			"RunnersAged": func() ([]int, bool) { return impl.RunnersAged(list, 0, 120) },
		} {
			got, _ := ids()
			want := slices.Clone(got)
			spoil(got)
			if again, _ := ids(); !slices.Equal(again, want) {
				t.Errorf("%s shares memory", name)
			}
		}
		clubs, _ := impl.ClubsOf(list)
		want := slices.Clone(clubs)
		clear(clubs[:cap(clubs)])
		if again, _ := impl.ClubsOf(list); !slices.Equal(again, want) || !slices.Equal(list, before) {
			t.Error("ClubsOf shares memory")
		}
	}
}

func TestRunnerTextsReturnForAllArguments(t *testing.T) {
	for _, s := range append(oddStrings(), strings.Repeat(" ", 5000), strings.Repeat("7 ann of hill 1990 w ", 1000), "7 ann of hill 1990 w card "+strings.Repeat("9", 5000)) {
		if r, ok := impl.ParseRunner(s); ok || r != (impl.Runner{}) {
			t.Errorf("ParseRunner of %d bytes = %v, %v", len(s), r, ok)
		}
		for _, n := range farNumbers {
			r := impl.Runner{Id: n, Name: s, Club: s, Born: n, Card: n}
			if text, ok := impl.RunnerText(r); ok || text != "" || impl.IsRunner(r) {
				t.Errorf("RunnerText = %q, %v", text, ok)
			}
		}
	}
}

// useControls calls every function of chapter 6.
func useControls(m impl.Map, list []impl.Control) {
	impl.AreControls(m, list)
	impl.ConfusableCodes(m, list)
	impl.FreeCode(m, list)
	for _, n := range append([]int{-1, 0, 1, 2, 9, 30, 31, 35, 36, 41, 55, 99, 100}, farNumbers...) {
		impl.CellOfCode(m, list, n)
		impl.CodeAt(m, list, n)
		impl.CloseControls(m, list, n)
		impl.NearestControl(m, list, n)
		for _, c := range append(slices.Clone(list[:min(len(list), 12)]), impl.Control{Code: n, Cell: n}) {
			impl.MoveControl(m, list, c.Code, n)
			impl.MoveControl(m, list, n, c.Cell)
			impl.RecodeControl(m, list, c.Code, n)
			impl.RecodeControl(m, list, n, c.Code)
		}
	}
}

func TestControlFunctionsReturnForAllArguments(t *testing.T) {
	far := []impl.Control{}
	for _, n := range farNumbers {
		far = append(far, impl.Control{Code: n, Cell: n}, impl.Control{Code: 31, Cell: n}, impl.Control{Code: n, Cell: 0})
	}
	lists := [][]impl.Control{nil, {}, far, slices.Repeat([]impl.Control{{Code: 31}}, 100000), slices.Repeat(far, 5000)}
	for _, c := range far {
		lists = append(lists, []impl.Control{c}, []impl.Control{{Code: 31, Cell: 1}, c}, []impl.Control{c, {Code: 31, Cell: 1}})
	}
	for _, m := range append(invalidMaps(), flatMap(3, 2), flatMap(1, 1), variedMap(6, 6, 3, 1)) {
		for _, list := range lists {
			useControls(m, list)
			if valid := impl.IsMap(m) && len(list) == 0; impl.AreControls(m, list) != valid {
				t.Errorf("AreControls of %d on %v", len(list), m)
			}
		}
	}
}

func TestControlFunctionsModifyNothing(t *testing.T) {
	beyond := impl.Control{Code: -1, Cell: -2}
	for _, p := range placements() {
		for _, spoilt := range []bool{false, true} {
			all := append(slices.Clone(p.list), beyond, beyond)
			if count := len(p.list); spoilt && count > 1 {
				all[0], all[count-1] = all[count-1], all[0]
			}
			before := slices.Clone(all)
			rise := append(slices.Clone(p.m.Rise), 77, 78)
			cost := append(slices.Clone(p.m.Cost), 79, 80)
			given := impl.Map{Width: p.m.Width, Height: p.m.Height, Rise: rise[:len(p.m.Rise)], Cost: cost[:len(p.m.Cost)]}
			useControls(given, all[:len(p.list)])
			if !slices.Equal(all, before) {
				t.Errorf("%v changed to %v", before, all)
			}
			if !sameMap(given, p.m) || !slices.Equal(rise[len(p.m.Rise):], []int{77, 78}) || !slices.Equal(cost[len(p.m.Cost):], []int{79, 80}) {
				t.Errorf("%v changed to %v", p.m, given)
			}
		}
	}
}

// TestControlFunctionsReadNothingBeyondTheLength takes the first ones of ten Controls, after which
// the others come in memory.
func TestControlFunctionsReadNothingBeyondTheLength(t *testing.T) {
	m := flatMap(6, 6)
	for seed := range codeSets() {
		all := controlsOn(m, 10, seed)
		for length := range all {
			list := all[:length]
			short := slices.Clip(slices.Clone(list))
			for _, c := range all {
				cell, ok := impl.CellOfCode(m, list, c.Code)
				if want, found := impl.CellOfCode(m, short, c.Code); cell != want || ok != found {
					t.Errorf("the cell of %d in %v: %d, %v", c.Code, list, cell, ok)
				}
				code, ok := impl.CodeAt(m, list, c.Cell)
				if want, found := impl.CodeAt(m, short, c.Cell); code != want || ok != found {
					t.Errorf("the Code at %d in %v: %d, %v", c.Cell, list, code, ok)
				}
				code, ok = impl.NearestControl(m, list, c.Cell)
				if want, found := impl.NearestControl(m, short, c.Cell); code != want || ok != found {
					t.Errorf("the nearest to %d in %v: %d, %v", c.Cell, list, code, ok)
				}
				moved, ok := impl.MoveControl(m, list, all[0].Code, c.Cell)
				if want, valid := impl.MoveControl(m, short, all[0].Code, c.Cell); !slices.Equal(moved, want) || ok != valid {
					t.Errorf("%d of %v moved to %d: %v, %v", all[0].Code, list, c.Cell, moved, ok)
				}
				recoded, ok := impl.RecodeControl(m, list, all[0].Code, c.Code)
				if want, valid := impl.RecodeControl(m, short, all[0].Code, c.Code); !slices.Equal(recoded, want) || ok != valid {
					t.Errorf("%d of %v recoded to %d: %v, %v", all[0].Code, list, c.Code, recoded, ok)
				}
			}
			pairs, _ := impl.CloseControls(m, list, 100)
			mixed, _ := impl.ConfusableCodes(m, list)
			want, _ := impl.ConfusableCodes(m, short)
			free, _ := impl.FreeCode(m, list)
			if len(pairs) != length*(length-1)/2 || !slices.Equal(mixed, want) || free != firstFree(short) || !impl.AreControls(m, list) {
				t.Errorf("%v: %v, %v, %d", list, pairs, mixed, free)
			}
		}
	}
}

func TestControlFunctionsGiveNewMemory(t *testing.T) {
	for _, p := range placements() {
		if len(p.list) == 0 {
			continue
		}
		// The list has room, into which a function could write what it adds.
		list := append(make([]impl.Control, 0, 20), p.list...)
		first, last := list[0], list[len(list)-1]
		for name, change := range map[string]func() ([]impl.Control, bool){
			"MoveControl":               func() ([]impl.Control, bool) { return impl.MoveControl(p.m, list, first.Code, first.Cell) },
			"RecodeControl to the same": func() ([]impl.Control, bool) { return impl.RecodeControl(p.m, list, last.Code, last.Code) },
			"RecodeControl to the end":  func() ([]impl.Control, bool) { return impl.RecodeControl(p.m, list, first.Code, 99) },
			"RecodeControl to the top":  func() ([]impl.Control, bool) { return impl.RecodeControl(p.m, list, last.Code, 31) },
		} {
			got, _ := change()
			want := slices.Clone(got)
			got = got[:cap(got)]
			for i := range got {
				got[i] = impl.Control{Code: -99, Cell: -99}
			}
			if again, _ := change(); !slices.Equal(again, want) || !slices.Equal(list, p.list) {
				t.Errorf("%s shares memory with %v", name, p.list)
			}
			if beyond := list[len(list):cap(list)]; slices.ContainsFunc(beyond, func(c impl.Control) bool { return c != impl.Control{} }) {
				t.Errorf("%s writes beyond the length of %v: %v", name, p.list, beyond)
			}
		}
		for name, pairs := range map[string]func() ([][2]int, bool){
			"CloseControls":   func() ([][2]int, bool) { return impl.CloseControls(p.m, list, 5) },
			"ConfusableCodes": func() ([][2]int, bool) { return impl.ConfusableCodes(p.m, list) },
		} {
			got, _ := pairs()
			want := slices.Clone(got)
			clear(got[:cap(got)])
			if again, _ := pairs(); !slices.Equal(again, want) {
				t.Errorf("%s shares memory", name)
			}
		}
	}
}

// useClasses calls every function of chapter 7 that takes a list.
func useClasses(list []impl.Class, runners []impl.Runner) {
	impl.AreClasses(list)
	impl.SharedCourses(list)
	impl.AgesWithout(list, true)
	impl.AgesWithout(list, false)
	impl.FillClasses(list, runners)
	for _, n := range append([]int{0, 1, 3, 19, 99, 100, 1990}, farNumbers...) {
		impl.CourseOf(list, n)
		for _, r := range append(slices.Clone(runners[:min(len(runners), 12)]), impl.Runner{Id: n, Name: "ann", Club: "hill", Born: n}) {
			impl.ClassesFor(list, r)
			impl.BestClass(list, r)
			for _, c := range list[:min(len(list), 12)] {
				impl.DoesAdmit(c, r)
			}
		}
	}
}

func TestClassFunctionsReturnForAllArguments(t *testing.T) {
	far := []impl.Class{}
	for _, n := range farNumbers {
		c := impl.Class{Id: n, Name: "a", Low: n, High: n, Women: true, Course: n, Most: n}
		far = append(far, c, impl.Class{Id: 1, Name: "a", High: n, Men: true, Course: 1, Most: 1}, impl.Class{Id: 1, Name: "a", Low: n, High: 120, Men: true, Course: 1, Most: 1})
	}
	lists := [][]impl.Class{far, slices.Repeat(sampleClasses(8, 1), 20000), slices.Repeat(far, 5000)}
	for _, c := range far {
		lists = append(lists, []impl.Class{c}, append(sampleClasses(3, 1), c), append([]impl.Class{c}, sampleClasses(3, 1)...))
	}
	for _, list := range lists {
		for _, runners := range [][]impl.Runner{nil, people(10), slices.Repeat(people(10), 20000)} {
			useClasses(list, runners)
			useClasses(sampleClasses(8, 2), runners)
		}
		if impl.AreClasses(list) {
			t.Errorf("AreClasses of %d", len(list))
		}
	}
}

func TestClassFunctionsModifyNothing(t *testing.T) {
	beyond := impl.Class{Id: -1, Name: "Beyond", Low: 7, High: 3}
	nobody := impl.Runner{Id: -1, Name: "Nobody", Card: 77}
	for count := range 11 {
		for first := range count + 1 {
			// The ages begin in no order, so that sorting the list itself would show.
			all := append(sampleClasses(count, first), beyond, beyond)
			all[0], all[first/2] = all[first/2], all[0]
			runners := append(people(count), nobody, nobody)
			before, peopleBefore := slices.Clone(all), slices.Clone(runners)
			useClasses(all[:count], runners[:count])
			if !slices.Equal(all, before) {
				t.Errorf("%v changed to %v", before, all)
			}
			if !slices.Equal(runners, peopleBefore) {
				t.Errorf("%v changed to %v", peopleBefore, runners)
			}
		}
	}
}

// TestClassFunctionsReadNothingBeyondTheLength takes the first ones of eight Classes and of ten
// Runners, after which the others come in memory.
func TestClassFunctionsReadNothingBeyondTheLength(t *testing.T) {
	for seed := range 10 {
		all, everybody := sampleClasses(8, seed), people(10)
		for length := range all {
			list := all[:length]
			short := slices.Clip(slices.Clone(list))
			for _, c := range all {
				course, ok := impl.CourseOf(list, c.Id)
				if want, found := impl.CourseOf(short, c.Id); course != want || ok != found {
					t.Errorf("the course of %d in %v: %d, %v", c.Id, list, course, ok)
				}
			}
			for i, r := range everybody {
				ids, _ := impl.ClassesFor(list, r)
				wanted, _ := impl.ClassesFor(short, r)
				best, ok := impl.BestClass(list, r)
				if want, found := impl.BestClass(short, r); best != want || ok != found || !slices.Equal(ids, wanted) {
					t.Errorf("the Classes for %v in %v: %v, %d", r, list, ids, best)
				}
				filled, _ := impl.FillClasses(list, everybody[:i])
				if want, _ := impl.FillClasses(short, slices.Clip(slices.Clone(everybody[:i]))); !slices.Equal(filled, want) || len(filled) != i {
					t.Errorf("%d Runners in %v: %v", i, list, filled)
				}
			}
			shared, _ := impl.SharedCourses(list)
			wanted, _ := impl.SharedCourses(short)
			spans, _ := impl.AgesWithout(list, seed%2 == 0)
			without, _ := impl.AgesWithout(short, seed%2 == 0)
			if !slices.Equal(shared, wanted) || !slices.EqualFunc(spans, without, slices.Equal) || !impl.AreClasses(list) {
				t.Errorf("%v: %v, %v", list, shared, spans)
			}
		}
	}
}

func TestClassFunctionsGiveNewMemory(t *testing.T) {
	for count := range 9 {
		// The lists have room, into which a function could write.
		list := append(make([]impl.Class, 0, 20), sampleClasses(count, count)...)
		runners := append(make([]impl.Runner, 0, 20), people(10)...)
		before, peopleBefore := slices.Clone(list[:20]), slices.Clone(runners[:20])
		for name, ids := range map[string]func() ([]int, bool){
			"ClassesFor":    func() ([]int, bool) { return impl.ClassesFor(list, runners[count]) },
			"SharedCourses": func() ([]int, bool) { return impl.SharedCourses(list) },
			"FillClasses":   func() ([]int, bool) { return impl.FillClasses(list, runners) },
		} {
			got, _ := ids()
			want := slices.Clone(got)
			spoil(got)
			if again, _ := ids(); !slices.Equal(again, want) {
				t.Errorf("%s shares memory", name)
			}
		}
		for _, woman := range []bool{true, false} {
			want, _ := impl.AgesWithout(list, woman)
			got, _ := impl.AgesWithout(list, woman)
			for i := range got {
				spoil(got[i])
				for j := i + 1; j < len(got); j++ {
					if !slices.Equal(got[j], want[j]) {
						t.Errorf("the spans %d and %d share memory", i, j)
					}
				}
			}
			clear(got[:cap(got)])
			if again, _ := impl.AgesWithout(list, woman); !slices.EqualFunc(again, want, slices.Equal) {
				t.Error("AgesWithout shares memory")
			}
		}
		if !slices.Equal(list[:20], before) || !slices.Equal(runners[:20], peopleBefore) {
			t.Errorf("%v changed to %v, or %v to %v", before, list[:20], peopleBefore, runners[:20])
		}
	}
}

func TestClassTextsReturnForAllArguments(t *testing.T) {
	for _, s := range append(oddStrings(), strings.Repeat(" ", 5000), strings.Repeat("5 elite 18-40 w course 2 most 5", 1000), "5 elite 18-40 w course 2 most "+strings.Repeat("9", 5000),
		"5 elite "+strings.Repeat("-", 3900)+" w course 2 most 5", strings.Repeat("-", 4000), strings.Repeat("wm ", 1333), strings.Repeat(" ", 7)) {
		if c, ok := impl.ParseClass(s); ok || c != (impl.Class{}) {
			t.Errorf("ParseClass of %d bytes = %v, %v", len(s), c, ok)
		}
		for _, n := range farNumbers {
			c := impl.Class{Id: n, Name: s, Low: n, High: n, Men: true, Course: n, Most: n}
			if text, ok := impl.ClassText(c); ok || text != "" || impl.IsClass(c) {
				t.Errorf("ClassText = %q, %v", text, ok)
			}
		}
	}
}

// useCourses calls every function of chapter 8 with each of the courses.
func useCourses(m impl.Map, list []impl.Control, courses [][]int) {
	for _, course := range courses {
		impl.IsCourse(m, list, course)
		impl.LegTimes(m, list, course)
		impl.CourseTime(m, list, course)
		impl.CourseClimb(m, list, course)
		impl.CourseFaults(m, list, course)
		impl.BackLegs(m, list, course)
		impl.BestOrder(m, list, course)
		impl.ReverseCourse(m, list, course)
		for _, other := range courses {
			impl.SharedLegs(m, list, course, other)
		}
	}
}

func TestCourseFunctionsReturnForAllArguments(t *testing.T) {
	far := []impl.Control{}
	courses := [][]int{nil, {}, {31, 41}, farNumbers, slices.Repeat([]int{31, 41}, 100000), make([]int, 8)}
	for _, n := range farNumbers {
		far = append(far, impl.Control{Code: n, Cell: n}, impl.Control{Code: 31, Cell: n}, impl.Control{Code: n, Cell: 0})
		courses = append(courses, []int{n}, []int{n, n}, []int{31, n}, []int{n, 41, 31}, []int{31, 41, n, 31})
	}
	lists := [][]impl.Control{nil, {}, far, {{Code: 31, Cell: 0}, {Code: 41, Cell: 1}}, slices.Repeat([]impl.Control{{Code: 31}}, 100000)}
	for _, c := range far {
		lists = append(lists, []impl.Control{c}, []impl.Control{{Code: 31, Cell: 1}, c}, []impl.Control{c, {Code: 41, Cell: 1}})
	}
	for _, m := range append(invalidMaps(), flatMap(3, 2), flatMap(1, 1), variedMap(6, 6, 3, 1)) {
		for i, list := range lists {
			useCourses(m, list, courses)
			if valid := impl.IsMap(m) && m.Width == 3 && i == 3; impl.IsCourse(m, list, courses[2]) != valid {
				t.Errorf("IsCourse with %d Controls on %v: %v", len(list), m, !valid)
			}
		}
	}
}

func TestCourseFunctionsModifyNothing(t *testing.T) {
	for i, x := range terrains() {
		codes := x.codes()
		if len(codes) == 0 {
			continue
		}
		all := append(slices.Clone(x.list), impl.Control{Code: -1, Cell: -2}, impl.Control{Code: -3, Cell: -4})
		rise := append(slices.Clone(x.m.Rise), 77, 78)
		cost := append(slices.Clone(x.m.Cost), 79, 80)
		given := impl.Map{Width: x.m.Width, Height: x.m.Height, Rise: rise[:len(x.m.Rise)], Cost: cost[:len(x.m.Cost)]}
		before, full, courses := slices.Clone(all), [][]int{}, [][]int{}
		for _, length := range []int{2, 3, 5, 7, 8, 9} {
			for _, once := range []bool{true, false} {
				course := append(sampleCourse(codes, length, i, once), -5, -6)
				full = append(full, course)
				courses = append(courses, course[:length])
			}
		}
		fullBefore := [][]int{}
		for _, course := range full {
			fullBefore = append(fullBefore, slices.Clone(course))
		}
		useCourses(given, all[:len(x.list)], courses)
		if !slices.Equal(all, before) || !slices.EqualFunc(full, fullBefore, slices.Equal) {
			t.Errorf("%v changed to %v, or %v to %v", before, all, fullBefore, full)
		}
		if !sameMap(given, x.m) || !slices.Equal(rise[len(x.m.Rise):], []int{77, 78}) || !slices.Equal(cost[len(x.m.Cost):], []int{79, 80}) {
			t.Errorf("%v changed to %v", x.m, given)
		}
	}
}

// TestCourseFunctionsReadNothingBeyondTheLength takes the first Codes of longer courses and the
// first ones of ten Controls, after which the others come in memory.
func TestCourseFunctionsReadNothingBeyondTheLength(t *testing.T) {
	m := flatMap(6, 6)
	for seed := range codeSets() {
		all := controlsOn(m, 10, seed)
		for count := range all {
			x := terrainOf(m, slices.Clip(slices.Clone(all[:count])))
			inMemory := terrain{placed{m, all[:count]}, x.best}
			codes := terrain{placed: placed{m, all}}.codes()
			for length := range 10 {
				// The Codes after the length are those of the course itself, in its order.
				once := append(sampleCourse(codes, length, seed, true), codes...)
				repeated := slices.Repeat(codes[:2], 10)
				checkCourse(t, inMemory, once[:length])
				checkCourse(t, inMemory, repeated[:length])
				checkShared(t, inMemory, once[:length], repeated[:length])
				checkShared(t, inMemory, repeated[:length], repeated[:7])
			}
		}
	}
}

func TestCourseFunctionsGiveNewMemory(t *testing.T) {
	for i, x := range terrains() {
		codes := x.codes()
		if len(codes) == 0 {
			continue
		}
		length := 2 + i%6
		for _, once := range []bool{true, false} {
			// The course has room, into which a function could write.
			course := append(make([]int, 0, 20), sampleCourse(codes, length, i, once)...)
			before := slices.Clone(course[:20])
			controls := slices.Clone(x.list)
			for name, numbers := range map[string]func() ([]int, bool){
				"LegTimes":      func() ([]int, bool) { return impl.LegTimes(x.m, x.list, course) },
				"CourseFaults":  func() ([]int, bool) { return impl.CourseFaults(x.m, x.list, course) },
				"BackLegs":      func() ([]int, bool) { return impl.BackLegs(x.m, x.list, course) },
				"ReverseCourse": func() ([]int, bool) { return impl.ReverseCourse(x.m, x.list, course) },
				"BestOrder": func() ([]int, bool) {
					order, _, ok := impl.BestOrder(x.m, x.list, course)
					return order, ok
				},
			} {
				got, _ := numbers()
				want := slices.Clone(got)
				spoil(got)
				if again, _ := numbers(); !slices.Equal(again, want) || !slices.Equal(course[:20], before) || !slices.Equal(x.list, controls) {
					t.Errorf("%s shares memory with %v", name, before)
				}
			}
			got, _ := impl.SharedLegs(x.m, x.list, course, course)
			want := slices.Clone(got)
			clear(got[:cap(got)])
			if again, _ := impl.SharedLegs(x.m, x.list, course, course); !slices.Equal(again, want) || !slices.Equal(course[:20], before) {
				t.Error("SharedLegs shares memory")
			}
		}
	}
}
