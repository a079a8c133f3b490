package tests

import (
	"cmp"
	"fmt"
	"math"
	"regexp"
	"slices"
	"strings"
	"testing"

	"loop.example/g00938/impl"
)

var lowerWord = regexp.MustCompile(`\A[a-z]{1,10}\z`)

// runnerForm are all texts of Runners: an Id, a Name, a Club, a year 1920..2020, a sex, a Card.
var runnerForm = regexp.MustCompile(`\A([1-9][0-9]{0,2}) ([a-z]{1,10}) of ([a-z]{1,10}) (19[2-9][0-9]|20[01][0-9]|2020) ([wm])(?: card ([1-9][0-9]{0,3}))?\z`)

var farNumbers = []int{math.MinInt, -1000000, -9999, -100, -1, math.MaxInt, 1 << 32, 1<<32 + 5, 1000000}

// wordsAndOthers are texts of which some are words and some are not, for one reason each.
var wordsAndOthers = []string{
	"a", "z", "az", "abcdefghij", "zzzzzzzzzz", "of", "card", "w", "m",
	"", "abcdefghijk", "A", "aB", "Ab", "a b", " a", "a ", "a\n", "\n", "a1", "1", "a-b", "a.", "`", "{", "@", "[", "\x00", "a\x00",
	"\xff", "\u00e9", "a\u00e9", "caf\u00e9", "\u0430", "of ", "x,y", "#", strings.Repeat("a", 266), strings.Repeat("a", 100000),
}

// sampleRunner returns a valid Runner with an Id and a Card.
func sampleRunner(id int, card int) impl.Runner {
	names := []string{"ann", "bo", "cy", "dee", "abcdefghij", "e"}
	clubs := []string{"hill", "fen", "oak", "hi", "hillside"}
	return impl.Runner{Id: id, Name: names[id%6], Club: clubs[id%5], Born: 1920 + id*37%101, Woman: id%3 == 0, Card: card}
}

// people returns so many valid Runners, of whom the fourth and the tenth have no Card.
func people(count int) []impl.Runner {
	list := []impl.Runner{}
	for i := range count {
		card := 9999 - i*i*50
		if i%6 == 3 {
			card = 0
		}
		list = append(list, sampleRunner(1+i*7+i*i, card))
	}
	return list
}

// isOneRunner is validity in other words than the program's.
func isOneRunner(r impl.Runner) bool {
	return lowerWord.MatchString(r.Name) && lowerWord.MatchString(r.Club) &&
		0 < r.Id && r.Id < 1000 && 1919 < r.Born && r.Born < 2021 && -1 < r.Card && r.Card < 10000
}

func areSomeRunners(list []impl.Runner) bool {
	ids, cards := []int{}, map[int]int{}
	for _, r := range list {
		if !isOneRunner(r) {
			return false
		}
		ids = append(ids, r.Id)
		if r.Card != 0 {
			cards[r.Card]++
		}
	}
	for _, users := range cards {
		if users > 1 {
			return false
		}
	}
	return len(list) < 11 && slices.IsSorted(ids) && len(slices.Compact(ids)) == len(list)
}

// rejectsRunners checks that no function takes a list for valid.
func rejectsRunners(t *testing.T, list []impl.Runner) {
	t.Helper()
	if impl.AreRunners(list) {
		t.Errorf("%v are valid", list)
	}
	if r, ok := impl.RunnerWithCard(list, 815); ok || r != (impl.Runner{}) {
		t.Errorf("RunnerWithCard(%v) = %v, %v", list, r, ok)
	}
	for _, r := range list {
		if x, ok := impl.RunnerWithCard(list, r.Card); ok || x != (impl.Runner{}) {
			t.Errorf("RunnerWithCard(%v, %d) = %v, %v", list, r.Card, x, ok)
		}
		if ids, ok := impl.ClubMembers(list, r.Club); ok || len(ids) != 0 {
			t.Errorf("ClubMembers(%v, %q) = %v, %v", list, r.Club, ids, ok)
		}
		if x, ok := impl.SwapCards(list, r.Id, list[0].Id); ok || len(x) != 0 {
			t.Errorf("SwapCards(%v, %d, %d) = %v, %v", list, r.Id, list[0].Id, x, ok)
		}
	}
	// An invalid list fails for a text that is nobody's Club, too, be it a word or not.
	for _, club := range []string{"nobody", "", "Hill", "two words", "abcdefghijk"} {
		if ids, ok := impl.ClubMembers(list, club); ok || len(ids) != 0 {
			t.Errorf("ClubMembers(%v, %q) = %v, %v", list, club, ids, ok)
		}
	}
	if x, ok := impl.AddRunner(list, sampleRunner(500, 7777)); ok || len(x) != 0 {
		t.Errorf("AddRunner(%v) = %v, %v", list, x, ok)
	}
	if x, ok := impl.ClubsOf(list); ok || len(x) != 0 {
		t.Errorf("ClubsOf(%v) = %v, %v", list, x, ok)
	}
	if club, n, ok := impl.BiggestClub(list); ok || club != "" || n != 0 {
		t.Errorf("BiggestClub(%v) = %q, %d, %v", list, club, n, ok)
	}
	if ids, ok := impl.RunnersAged(list, 0, 120); ok || len(ids) != 0 {
		t.Errorf("RunnersAged(%v) = %v, %v", list, ids, ok)
	}
}

// rejectsRunner checks that no function takes a Runner for valid.
func rejectsRunner(t *testing.T, r impl.Runner) {
	t.Helper()
	if impl.IsRunner(r) {
		t.Errorf("%v is valid", r)
	}
	if text, ok := impl.RunnerText(r); ok || text != "" {
		t.Errorf("RunnerText(%v) = %q, %v", r, text, ok)
	}
	rejectsRunners(t, []impl.Runner{r})
	for _, list := range [][]impl.Runner{nil, {sampleRunner(3, 5)}, people(9)} {
		if x, ok := impl.AddRunner(list, r); ok || len(x) != 0 {
			t.Errorf("AddRunner(%v, %v) = %v, %v", list, r, x, ok)
		}
	}
}

func checkRunner(t *testing.T, r impl.Runner) {
	t.Helper()
	if !isOneRunner(r) {
		rejectsRunner(t, r)
	} else if !impl.IsRunner(r) || !impl.AreRunners([]impl.Runner{r}) {
		t.Errorf("%v is not valid", r)
	}
}

func TestNumbersOfRunners(t *testing.T) {
	good := impl.Runner{Id: 7, Name: "ann", Club: "hill", Born: 1990, Woman: true, Card: 815}
	r := good
	for r.Id = -3; r.Id <= 1003; r.Id++ {
		checkRunner(t, r)
	}
	r = good
	for r.Born = 1910; r.Born <= 2030; r.Born++ {
		checkRunner(t, r)
	}
	r = good
	for r.Card = -3; r.Card <= 10003; r.Card++ {
		checkRunner(t, r)
	}
	for _, n := range append(slices.Clone(farNumbers), 0) {
		rejectsRunner(t, impl.Runner{Id: n, Name: "ann", Club: "hill", Born: 1990, Card: 815})
		rejectsRunner(t, impl.Runner{Id: 7, Name: "ann", Club: "hill", Born: n, Card: 815})
		checkRunner(t, impl.Runner{Id: 7, Name: "ann", Club: "hill", Born: 1990, Card: n})
	}
	rejectsRunner(t, impl.Runner{})
}

func TestWordsOfRunners(t *testing.T) {
	for _, word := range wordsAndOthers {
		checkRunner(t, impl.Runner{Id: 7, Name: word, Club: "hill", Born: 1990, Card: 815})
		checkRunner(t, impl.Runner{Id: 7, Name: "ann", Club: word, Born: 1990})
	}
	for _, word := range []string{"a", "abc", "abcdefghij"} {
		for place := range len(word) {
			for c := range 256 {
				changed := word[:place] + string([]byte{byte(c)}) + word[place+1:]
				checkRunner(t, impl.Runner{Id: 7, Name: changed, Club: "hill", Born: 1990})
				checkRunner(t, impl.Runner{Id: 7, Name: "ann", Club: changed, Born: 1990, Woman: true})
			}
		}
	}
}

// eachSmallList calls visit with all lists of at most so many Runners with small Ids and Cards.
func eachSmallList(most int, visit func([]impl.Runner)) {
	var extend func(list []impl.Runner)
	extend = func(list []impl.Runner) {
		visit(list)
		if len(list) == most {
			return
		}
		for id := 1; id <= 4; id++ {
			for card := range 3 {
				extend(append(slices.Clone(list), sampleRunner(id, card)))
			}
		}
	}
	extend(nil)
}

func TestEverySmallListOfRunners(t *testing.T) {
	valid := 0
	eachSmallList(4, func(list []impl.Runner) {
		if !areSomeRunners(list) {
			rejectsRunners(t, list)
		} else if valid++; !impl.AreRunners(list) {
			t.Errorf("%v are not valid", list)
		}
	})
	if valid < 100 {
		t.Error("only so many lists are valid:", valid)
	}
}

func TestLongListsOfRunners(t *testing.T) {
	for count := range 14 {
		list := people(count)
		if impl.AreRunners(list) != (count <= 10) {
			t.Errorf("AreRunners of %d", count)
		}
		if count > 10 {
			rejectsRunners(t, list)
			continue
		}
		for i := range list {
			for j := range i {
				spoiled := slices.Clone(list)
				spoiled[i].Id = list[j].Id
				rejectsRunners(t, spoiled)
				spoiled = slices.Clone(list)
				spoiled[i], spoiled[j] = spoiled[j], spoiled[i]
				rejectsRunners(t, spoiled)
				spoiled = slices.Clone(list)
				spoiled[i].Card, spoiled[j].Card = 4321, 4321
				rejectsRunners(t, spoiled)
				spoiled[i].Card, spoiled[j].Card = 0, 0
				if !impl.AreRunners(spoiled) {
					t.Errorf("two have no Card: %v", spoiled)
				}
			}
			spoiled := slices.Clone(list)
			spoiled[i].Name = "Ann"
			rejectsRunners(t, spoiled)
		}
	}
}

func TestRunnersWithoutAnyCard(t *testing.T) {
	list := people(10)
	for i := range list {
		list[i].Card = 0
	}
	if !impl.AreRunners(list) {
		t.Error("ten Runners without a Card are not valid")
	}
	for card := -2; card <= 10002; card++ {
		if r, ok := impl.RunnerWithCard(list, card); ok || r != (impl.Runner{}) {
			t.Errorf("the Card %d is used by %v", card, r)
		}
	}
}

func TestRunnerWithCard(t *testing.T) {
	for count := range 11 {
		list := people(count)
		users := map[int]impl.Runner{}
		for _, r := range list {
			if r.Card != 0 {
				users[r.Card] = r
			}
		}
		for card := -2; card <= 10002; card++ {
			want, used := users[card]
			if r, ok := impl.RunnerWithCard(list, card); ok != used || r != want {
				t.Errorf("RunnerWithCard(%v, %d) = %v, %v", list, card, r, ok)
			}
		}
		for _, card := range farNumbers {
			if r, ok := impl.RunnerWithCard(list, card); ok || r != (impl.Runner{}) {
				t.Errorf("RunnerWithCard(%v, %d) = %v, %v", list, card, r, ok)
			}
		}
	}
	list := []impl.Runner{sampleRunner(1, 9999), sampleRunner(2, 1)}
	for _, want := range list {
		if r, ok := impl.RunnerWithCard(list, want.Card); !ok || r != want {
			t.Errorf("the Card %d is used by %v, %v", want.Card, r, ok)
		}
	}
}

// checkAdded compares AddRunner with adding at the end and sorting.
func checkAdded(t *testing.T, list []impl.Runner, r impl.Runner) {
	t.Helper()
	want := append(slices.Clone(list), r)
	slices.SortFunc(want, func(a, b impl.Runner) int { return cmp.Compare(a.Id, b.Id) })
	valid := areSomeRunners(list) && areSomeRunners(want)
	got, ok := impl.AddRunner(list, r)
	if ok != valid || valid && !slices.Equal(got, want) || !valid && len(got) != 0 {
		t.Errorf("AddRunner(%v, %v) = %v, %v", list, r, got, ok)
	}
}

func TestAddRunner(t *testing.T) {
	eachSmallList(3, func(list []impl.Runner) {
		for id := range 6 {
			for card := range 4 {
				r := sampleRunner(id, card)
				r.Name, r.Club = "new", "newer"
				checkAdded(t, list, r)
			}
		}
	})
	for count := range 13 {
		list := people(count)
		for id := range 150 {
			checkAdded(t, list, sampleRunner(id, 0))
			checkAdded(t, list, sampleRunner(id, 9999))
			checkAdded(t, list, sampleRunner(id, 4444))
		}
		checkAdded(t, list, sampleRunner(999, 1))
		checkAdded(t, list, sampleRunner(1000, 1))
		checkAdded(t, list, sampleRunner(999, 10000))
	}
	// What is left is not in order, but becomes so with the Runner who is added.
	list := []impl.Runner{sampleRunner(3, 1), sampleRunner(2, 2)}
	checkAdded(t, list, sampleRunner(4, 3))
	checkAdded(t, list, sampleRunner(1, 3))
}

func TestTenRunnersAddedInAnyOrder(t *testing.T) {
	want := people(10)
	for step := range 10 {
		if step%2 == 0 || step == 5 {
			continue
		}
		for first := range 10 {
			list := []impl.Runner{}
			for i := range 10 {
				var ok bool
				if list, ok = impl.AddRunner(list, want[(first+i*step)%10]); !ok || len(list) != i+1 {
					t.Fatalf("added to %v, %v", list, ok)
				}
			}
			if !slices.Equal(list, want) {
				t.Errorf("added to %v", list)
			}
		}
	}
}

// checkSwapped compares SwapCards with giving each of the two the Card of the other one.
func checkSwapped(t *testing.T, list []impl.Runner, a, b int) {
	t.Helper()
	cards := map[int]int{}
	for _, r := range list {
		cards[r.Id] = r.Card
	}
	_, hasA := cards[a]
	_, hasB := cards[b]
	got, ok := impl.SwapCards(list, a, b)
	if !hasA || !hasB || a == b {
		if ok || len(got) != 0 {
			t.Errorf("SwapCards(%v, %d, %d) = %v, %v", list, a, b, got, ok)
		}
		return
	}
	want := slices.Clone(list)
	for i := range want {
		switch want[i].Id {
		case a:
			want[i].Card = cards[b]
		case b:
			want[i].Card = cards[a]
		}
	}
	if !ok || !slices.Equal(got, want) || !impl.AreRunners(got) {
		t.Errorf("SwapCards(%v, %d, %d) = %v, %v", list, a, b, got, ok)
	}
	for _, pair := range [][2]int{{a, b}, {b, a}} {
		if back, ok := impl.SwapCards(got, pair[0], pair[1]); !ok || !slices.Equal(back, list) {
			t.Errorf("%v swapped for %d and %d is %v, and again %v", list, a, b, got, back)
		}
	}
}

func TestSwappingCardsTwiceIsNoChange(t *testing.T) {
	for count := range 11 {
		list := people(count)
		ids := []int{-1, 0, 2, 998, 999, 1000}
		for _, r := range list {
			ids = append(ids, r.Id)
		}
		for _, a := range append(ids, farNumbers...) {
			for _, b := range append(ids, farNumbers...) {
				checkSwapped(t, list, a, b)
			}
		}
	}
	eachSmallList(4, func(list []impl.Runner) {
		if !areSomeRunners(list) {
			return
		}
		for a := range 6 {
			for b := range 6 {
				checkSwapped(t, list, a, b)
			}
		}
	})
}

func TestSwapCardsByHand(t *testing.T) {
	ann := impl.Runner{Id: 7, Name: "ann", Club: "hill", Born: 1990, Woman: true, Card: 815}
	bo := impl.Runner{Id: 9, Name: "bo", Club: "fen", Born: 2015}
	cy := impl.Runner{Id: 999, Name: "cy", Club: "fen", Born: 2020, Card: 1}
	list := []impl.Runner{ann, bo, cy}
	swapped, ok := impl.SwapCards(list, 999, 7)
	if !ok || swapped[0].Card != 1 || swapped[1] != bo || swapped[2].Card != 815 || swapped[0].Name != "ann" || swapped[2].Name != "cy" {
		t.Errorf("swapped to %v, %v", swapped, ok)
	}
	// One of the two has no Card, and then the other one has none.
	swapped, ok = impl.SwapCards(list, 9, 7)
	if !ok || swapped[0].Card != 0 || swapped[1].Card != 815 || swapped[2] != cy {
		t.Errorf("swapped to %v, %v", swapped, ok)
	}
}

// eachClubbing calls visit with lists of so many Runners, in all ways in which they can be in
// four Clubs, of which some are longer than others that are less.
func eachClubbing(count int, visit func([]impl.Runner)) {
	clubs := []string{"fen", "hill", "fe", "fenn"}
	ways := 1
	for range count {
		ways *= len(clubs)
	}
	for way := range ways {
		list := people(count)
		for i, rest := 0, way; i < count; i++ {
			list[i].Club = clubs[rest%len(clubs)]
			rest /= len(clubs)
		}
		visit(list)
	}
}

func checkClubs(t *testing.T, list []impl.Runner) {
	t.Helper()
	members := map[string][]int{"oak": nil}
	for _, r := range list {
		members[r.Club] = append(members[r.Club], r.Id)
	}
	names := []string{}
	biggest, most := "", 0
	for club, ids := range members {
		if got, ok := impl.ClubMembers(list, club); !ok || !slices.Equal(got, ids) {
			t.Errorf("ClubMembers(%v, %q) = %v, %v", list, club, got, ok)
		}
		if len(ids) > most || len(ids) == most && most > 0 && impl.LessString(club, biggest) {
			biggest, most = club, len(ids)
		}
		if len(ids) > 0 {
			names = append(names, club)
		}
	}
	slices.Sort(names)
	if got, ok := impl.ClubsOf(list); !ok || !slices.Equal(got, names) {
		t.Errorf("ClubsOf(%v) = %q, %v", list, got, ok)
	}
	if club, n, ok := impl.BiggestClub(list); ok != (len(list) > 0) || club != biggest || n != most {
		t.Errorf("BiggestClub(%v) = %q, %d, %v", list, club, n, ok)
	}
}

func TestClubs(t *testing.T) {
	for count := range 7 {
		eachClubbing(count, func(list []impl.Runner) { checkClubs(t, list) })
	}
	for count := range 11 {
		checkClubs(t, people(count))
	}
	list := people(10)
	for i := range list {
		list[i].Club = "oak"
	}
	checkClubs(t, list)
	for i := range list {
		list[i].Club = strings.Repeat(string(rune('z'-i)), i+1)
	}
	checkClubs(t, list)
}

func TestClubsWithEqualNumbersOfMembers(t *testing.T) {
	list := people(10)
	for i, club := range []string{"oak", "fen", "hill", "oak", "fenn", "fen", "hill", "fenn", "oak", "fen"} {
		list[i].Club = club
	}
	// Three of oak and three of fen, two of fenn and two of hill.
	if club, n, ok := impl.BiggestClub(list); !ok || club != "fen" || n != 3 {
		t.Errorf("the biggest club is %q, %d, %v", club, n, ok)
	}
	if clubs, ok := impl.ClubsOf(list); !ok || !slices.Equal(clubs, []string{"fen", "fenn", "hill", "oak"}) {
		t.Errorf("the clubs are %q, %v", clubs, ok)
	}
	list[1].Club = "oak"
	if club, n, ok := impl.BiggestClub(list); !ok || club != "oak" || n != 4 {
		t.Errorf("the biggest club is %q, %d, %v", club, n, ok)
	}
	list[1].Club = "hill"
	if club, n, ok := impl.BiggestClub(list); !ok || club != "hill" || n != 3 {
		t.Errorf("the biggest club is %q, %d, %v", club, n, ok)
	}
	if club, n, ok := impl.BiggestClub(nil); ok || club != "" || n != 0 {
		t.Errorf("the biggest club of nobody is %q, %d, %v", club, n, ok)
	}
}

// checkMembers compares ClubMembers with a search by equality, for a valid list and any text.
func checkMembers(t *testing.T, list []impl.Runner, club string) {
	t.Helper()
	want := []int{}
	for _, r := range list {
		if r.Club == club {
			want = append(want, r.Id)
		}
	}
	if ids, ok := impl.ClubMembers(list, club); !ok || !slices.Equal(ids, want) {
		t.Errorf("ClubMembers(%v, %q) = %v, %v", list, club, ids, ok)
	}
}

func TestClubMembersOfAnyText(t *testing.T) {
	for count := range 11 {
		list := people(count)
		for _, club := range wordsAndOthers {
			checkMembers(t, list, club)
		}
		// Only the same bytes are the same Club: not those with a byte changed, added or removed.
		for _, club := range []string{"hill", "fen", "oak", "hi", "hillside"} {
			for place := range len(club) + 1 {
				for c := range 256 {
					checkMembers(t, list, club[:place]+string([]byte{byte(c)})+club[place:])
					checkMembers(t, list, club[:place]+string([]byte{byte(c)})+club[min(place+1, len(club)):])
				}
				checkMembers(t, list, club[:place])
				checkMembers(t, list, club[place:])
			}
			checkMembers(t, list, strings.ToUpper(club))
		}
	}
}

func TestClubMembersOfTextsThatAreNoWords(t *testing.T) {
	ann := impl.Runner{Id: 7, Name: "ann", Club: "hill", Born: 1990, Woman: true, Card: 815}
	for _, list := range [][]impl.Runner{nil, {}, {ann}} {
		for _, club := range []string{"", "Fen", "two words", "abcdefghijk", "fen"} {
			if ids, ok := impl.ClubMembers(list, club); !ok || len(ids) != 0 {
				t.Errorf("ClubMembers(%v, %q) = %v, %v", list, club, ids, ok)
			}
		}
	}
	if ids, ok := impl.ClubMembers([]impl.Runner{ann}, "hill"); !ok || !slices.Equal(ids, []int{7}) {
		t.Errorf("the members of hill are %v, %v", ids, ok)
	}
}

func TestRunnersAged(t *testing.T) {
	for count := range 11 {
		list := people(count)
		for i := range list {
			list[i].Born = []int{2020, 1920, 1990, 2019, 1921, 1990, 2008, 2009, 1960, 2020}[i]
		}
		for low := -2; low <= 123; low++ {
			for high := -2; high <= 123; high++ {
				want, valid := []int{}, 0 <= low && low <= high && high <= 120
				for _, r := range list {
					if age := 2026 - r.Born; valid && low <= age && age <= high {
						want = append(want, r.Id)
					}
				}
				if ids, ok := impl.RunnersAged(list, low, high); ok != valid || !slices.Equal(ids, want) {
					t.Errorf("RunnersAged(%v, %d, %d) = %v, %v", list, low, high, ids, ok)
				}
			}
		}
		for _, n := range farNumbers {
			for _, ages := range [][2]int{{n, 50}, {50, n}, {n, n}, {0, n}, {n, 120}} {
				if ids, ok := impl.RunnersAged(list, ages[0], ages[1]); ok || len(ids) != 0 {
					t.Errorf("RunnersAged(%v, %v) = %v, %v", list, ages, ids, ok)
				}
			}
		}
	}
}

func TestRunnersAgedAtTheLimits(t *testing.T) {
	young, old := sampleRunner(1, 0), sampleRunner(2, 0)
	young.Born, old.Born = 2020, 1920
	list := []impl.Runner{young, old}
	for ages, want := range map[[2]int][]int{
		{6, 6}: {1}, {0, 5}: {}, {7, 105}: {}, {106, 106}: {2}, {107, 120}: {}, {6, 106}: {1, 2}, {0, 120}: {1, 2}, {0, 0}: {}, {120, 120}: {},
	} {
		if ids, ok := impl.RunnersAged(list, ages[0], ages[1]); !ok || !slices.Equal(ids, want) {
			t.Errorf("RunnersAged%v = %v, %v", ages, ids, ok)
		}
	}
}

// runnerOf reads a text by its form.
func runnerOf(text string) (impl.Runner, bool) {
	found := runnerForm.FindStringSubmatch(text)
	if found == nil {
		return impl.Runner{}, false
	}
	r := impl.Runner{Name: found[2], Club: found[3], Woman: found[5] == "w"}
	fmt.Sscan(found[1], &r.Id)
	fmt.Sscan(found[4], &r.Born)
	fmt.Sscan(found[6], &r.Card)
	return r, true
}

func checkParsedRunner(t *testing.T, text string) {
	t.Helper()
	want, valid := runnerOf(text)
	if r, ok := impl.ParseRunner(text); ok != valid || r != want {
		t.Errorf("ParseRunner(%q) = %v, %v", text, r, ok)
	}
}

func checkRunnerText(t *testing.T, r impl.Runner, want string) {
	t.Helper()
	if text, ok := impl.RunnerText(r); !ok || text != want {
		t.Errorf("RunnerText(%v) = %q, %v", r, text, ok)
	}
	if back, ok := impl.ParseRunner(want); !ok || back != r {
		t.Errorf("ParseRunner(%q) = %v, %v", want, back, ok)
	}
}

func TestRunnerTexts(t *testing.T) {
	for text, r := range map[string]impl.Runner{
		"7 ann of hill 1990 w card 815":                 {Id: 7, Name: "ann", Club: "hill", Born: 1990, Woman: true, Card: 815},
		"9 bo of fen 2015 m":                            {Id: 9, Name: "bo", Club: "fen", Born: 2015},
		"1 a of z 1920 m card 1":                        {Id: 1, Name: "a", Club: "z", Born: 1920, Card: 1},
		"999 abcdefghij of zzzzzzzzzz 2020 w card 9999": {Id: 999, Name: "abcdefghij", Club: "zzzzzzzzzz", Born: 2020, Woman: true, Card: 9999},
		"10 of of of 2000 w":                            {Id: 10, Name: "of", Club: "of", Born: 2000, Woman: true},
		"100 card of card 1999 m card 10":               {Id: 100, Name: "card", Club: "card", Born: 1999, Card: 10},
		"20 w of m 2020 m card 2020":                    {Id: 20, Name: "w", Club: "m", Born: 2020, Card: 2020},
		"43 card of of 1980 w card 43":                  {Id: 43, Name: "card", Club: "of", Born: 1980, Woman: true, Card: 43},
		"44 m of w 1981 w":                              {Id: 44, Name: "m", Club: "w", Born: 1981, Woman: true},
	} {
		checkRunnerText(t, r, text)
	}
}

func TestEveryNumberOfARunnerRoundTrips(t *testing.T) {
	for id := 1; id <= 999; id++ {
		r := impl.Runner{Id: id, Name: "ann", Club: "hill", Born: 1920 + id%101, Woman: id%2 == 0}
		checkRunnerText(t, r, fmt.Sprintf("%d ann of hill %d %s", id, 1920+id%101, []string{"w", "m"}[id%2]))
	}
	for card := 1; card <= 9999; card++ {
		r := impl.Runner{Id: 1 + card%999, Name: "bo", Club: "fen", Born: 2020 - card%101, Woman: card%3 == 0, Card: card}
		checkRunnerText(t, r, fmt.Sprintf("%d bo of fen %d %s card %d", r.Id, r.Born, []string{"w", "m", "m"}[card%3], card))
	}
	for _, r := range people(10) {
		for _, word := range wordsAndOthers {
			if r.Name = word; isOneRunner(r) {
				text, ok := impl.RunnerText(r)
				if back, fine := runnerOf(text); !ok || !fine || back != r {
					t.Errorf("RunnerText(%v) = %q, %v", r, text, ok)
				}
			}
		}
	}
}

func TestParseRunnerRejects(t *testing.T) {
	for _, s := range []string{
		"", " ", "7", "7 ann", "7 ann of", "7 ann of hill", "7 ann of hill 1990", "7 ann of hill w", "ann of hill 1990 w",
		"7 ann of hill 1990 ", "7 ann of hill 1990 w ", " 7 ann of hill 1990 w", "7  ann of hill 1990 w", "7 ann of hill 1990  w",
		"7 ann of hill 1990 w\n", "7\tann of hill 1990 w", "7 ann hill 1990 w", "7 ann of 1990 w", "7 of hill 1990 w",
		"7 ann in hill 1990 w", "7 ann Of hill 1990 w", "7 ann of of hill 1990 w", "7 ann of hill 1990 woman", "7 ann of hill 1990 W",
		"7 ann of hill 1990 M", "7 ann of hill 1990 x", "7 ann of hill 1990 mw", "7 ann of hill w 1990", "7 hill 1990 w ann of",
		"7 Ann of hill 1990 w", "7 ann of Hill 1990 w", "7 ann of hill2 1990 w", "7 an-n of hill 1990 w", "7 abcdefghijk of hill 1990 w",
		"7 ann of abcdefghijk 1990 w", "7  of hill 1990 w", "7 ann of  1990 w", "0 ann of hill 1990 w", "1000 ann of hill 1990 w",
		"07 ann of hill 1990 w", "+7 ann of hill 1990 w", "-7 ann of hill 1990 w", "7. ann of hill 1990 w", "x ann of hill 1990 w",
		"7 ann of hill 1919 w", "7 ann of hill 2021 w", "7 ann of hill 01990 w", "7 ann of hill +1990 w", "7 ann of hill 90 w", "7 ann of hill x w",
		"7 ann of hill 1990 w card", "7 ann of hill 1990 w card ", "7 ann of hill 1990 w 815", "7 ann of hill 1990 w card 0",
		"7 ann of hill 1990 w card 10000", "7 ann of hill 1990 w card -1", "7 ann of hill 1990 w card 0815", "7 ann of hill 1990 w card +815",
		"7 ann of hill 1990 w card x", "7 ann of hill 1990 w Card 815", "7 ann of hill 1990 w card 815 ", "7 ann of hill 1990 w card 815 816",
		"7 ann of hill 1990 w card  815", "7 ann of hill 1990 w  card 815", "7 ann of hill 1990 w card 815\n", "7 ann of hill 1990 w card 815 card 815",
		"7 ann of hill 1990 card 815", "7 ann of hill 1990 card 815 w", "7 ann of hill 1990 m w card 815", "7 ann of hill 1990 m card card 815",
		"7 ann of hill 1990 w car 815", "7 ann of hill 1990 w x 815", "7 ann of hill 1990 w  815", "7 ann of hill 1990 w card 99999999999999999999",
		"99999999999999999999 ann of hill 1990 w", "7 ann of hill 1990 w,card 815", "7 ann of hill 1990\x00w", "7 ann of hill 1990 w\x00",
		"7 ann of hill 1990 w 8 bo of fen 2015 m", "7 ann of hill 1990 w\n8 bo of fen 2015 m",
		"7 ann of hill 1990 w card 4294967297", "7 ann of hill 4294969286 w", "7 \u00e9 of hill 1990 w",
	} {
		if r, ok := impl.ParseRunner(s); ok || r != (impl.Runner{}) {
			t.Errorf("ParseRunner(%q) = %v, %v", s, r, ok)
		}
		checkParsedRunner(t, s)
	}
}

func TestParseRunnerOfTextsChangedInOnePlace(t *testing.T) {
	for _, text := range []string{
		"7 ann of hill 1990 w card 815", "9 bo of fen 2015 m", "999 abcdefghij of zzzzzzzzzz 2020 w card 9999", "1 a of z 1920 m card 1",
		"10 of of of 2000 w", "100 card of card 1999 m card 10",
	} {
		eachTextChangedInOnePlace(text, func(changed string) { checkParsedRunner(t, changed) })
	}
}

func TestParseRunnerOfChangedWords(t *testing.T) {
	others := []string{"", "7", "0", "815", "1990", "ann", "of", "card", "w", "m", "10000", "2021", "abcdefghijk"}
	for _, text := range []string{"7 ann of hill 1990 w card 815", "9 bo of fen 2015 m"} {
		eachTextWithChangedWords(text, others, func(changed string) { checkParsedRunner(t, changed) })
	}
}
