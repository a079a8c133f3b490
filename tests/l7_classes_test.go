package tests

import (
	"fmt"
	"regexp"
	"slices"
	"strings"
	"testing"

	"loop.example/g00938/impl"
)

// classForm are all texts of Classes, and some more in which the first age is greater: an Id, a
// Name, two ages 0..120, sexes, a Course 1..20, a number 1..500.
var classForm = regexp.MustCompile(`\A([1-9][0-9]?) ([a-z]{1,10}) (0|[1-9][0-9]?|1[01][0-9]|120)-(0|[1-9][0-9]?|1[01][0-9]|120) (w|m|wm) course ([1-9]|1[0-9]|20) most ([1-9]|[1-9][0-9]|[1-4][0-9][0-9]|500)\z`)

// sexes are Women and Men of a Class, in the three ways that are valid.
var sexes = [][2]bool{{true, false}, {false, true}, {true, true}}

// spanClass returns a Class for some ages and one of the sexes; its Id and its Name are to be given.
func spanClass(low, high, sex int) impl.Class {
	return impl.Class{Id: 1, Name: "a", Low: low, High: high, Women: sexes[sex][0], Men: sexes[sex][1], Course: 1, Most: 500}
}

// numbered gives the Classes Ids in ascending order and different Names.
func numbered(list []impl.Class) []impl.Class {
	list = slices.Clone(list)
	for i := range list {
		list[i].Id = 3 + i*8 + i%3
		list[i].Name = string(rune('z'-i)) + strings.Repeat("a", i%4)
	}
	return list
}

// sampleClasses returns so many Classes with other ages, sexes and numbers for each seed.
func sampleClasses(count, seed int) []impl.Class {
	list := []impl.Class{}
	for i := range count {
		low := (i*17 + seed*11) % 90
		c := spanClass(low, low+(i*i+seed)*7%31, (i+seed/2)%3)
		c.Course = 1 + (i*i+seed)%5*4
		c.Most = 1 + (i+seed)%3
		list = append(list, c)
	}
	return numbered(list)
}

// aged returns a valid Runner of an age in 6..106.
func aged(age int, woman bool) impl.Runner {
	return impl.Runner{Id: 7, Name: "ann", Club: "hill", Born: 2026 - age, Woman: woman, Card: 815}
}

// peopleAged returns a valid list of Runners of the ages, women for even ones.
func peopleAged(ages ...int) []impl.Runner {
	list := []impl.Runner{}
	for i, age := range ages {
		r := aged(age, age%2 == 0)
		r.Id, r.Card = 10+i*3, 0
		list = append(list, r)
	}
	return list
}

// isOneClass is validity in other words than the program's.
func isOneClass(c impl.Class) bool {
	return lowerWord.MatchString(c.Name) && 0 < c.Id && c.Id < 100 && -1 < c.Low && !(c.High < c.Low) && c.High < 121 &&
		(c.Women || c.Men) && 0 < c.Course && c.Course < 21 && 0 < c.Most && c.Most < 501
}

func areSomeClasses(list []impl.Class) bool {
	ids, names := []int{}, map[string]bool{}
	for _, c := range list {
		if !isOneClass(c) {
			return false
		}
		ids = append(ids, c.Id)
		names[c.Name] = true
	}
	return len(list) < 9 && slices.IsSorted(ids) && len(slices.Compact(ids)) == len(list) && len(names) == len(list)
}

// isFor tells whether one of the years in which those for whom a Class is were born is the Runner's.
func isFor(c impl.Class, r impl.Runner) bool {
	for age := c.Low; age <= c.High; age++ {
		if r.Born+age == 2026 {
			return r.Woman && c.Women || !r.Woman && c.Men
		}
	}
	return false
}

// rejectsClasses checks that no function takes a list for valid.
func rejectsClasses(t *testing.T, list []impl.Class) {
	t.Helper()
	if impl.AreClasses(list) {
		t.Errorf("%v are valid", list)
	}
	for _, r := range []impl.Runner{aged(30, true), aged(30, false), aged(6, true), {}} {
		if ids, ok := impl.ClassesFor(list, r); ok || len(ids) != 0 {
			t.Errorf("ClassesFor(%v, %v) = %v, %v", list, r, ids, ok)
		}
		if id, ok := impl.BestClass(list, r); ok || id != 0 {
			t.Errorf("BestClass(%v, %v) = %d, %v", list, r, id, ok)
		}
	}
	for _, c := range list {
		if course, ok := impl.CourseOf(list, c.Id); ok || course != 0 {
			t.Errorf("CourseOf(%v, %d) = %d, %v", list, c.Id, course, ok)
		}
	}
	if courses, ok := impl.SharedCourses(list); ok || len(courses) != 0 {
		t.Errorf("SharedCourses(%v) = %v, %v", list, courses, ok)
	}
	for _, woman := range []bool{true, false} {
		if spans, ok := impl.AgesWithout(list, woman); ok || len(spans) != 0 {
			t.Errorf("AgesWithout(%v, %v) = %v, %v", list, woman, spans, ok)
		}
	}
	for _, runners := range [][]impl.Runner{nil, peopleAged(30), peopleAged(20, 31, 6, 106)} {
		if ids, ok := impl.FillClasses(list, runners); ok || len(ids) != 0 {
			t.Errorf("FillClasses(%v, %v) = %v, %v", list, runners, ids, ok)
		}
	}
}

// rejectsClass checks that no function takes a Class for valid, alone or before and after others.
func rejectsClass(t *testing.T, c impl.Class) {
	t.Helper()
	if impl.IsClass(c) {
		t.Errorf("%v is valid", c)
	}
	for _, r := range []impl.Runner{aged(30, true), aged(30, false), aged(106, true), {}} {
		if is, ok := impl.DoesAdmit(c, r); is || ok {
			t.Errorf("DoesAdmit(%v, %v) = %v, %v", c, r, is, ok)
		}
	}
	if text, ok := impl.ClassText(c); ok || text != "" {
		t.Errorf("ClassText(%v) = %q, %v", c, text, ok)
	}
	first, last := spanClass(0, 120, 2), spanClass(0, 120, 2)
	last.Id, last.Name = 99, "zz"
	rejectsClasses(t, []impl.Class{c})
	rejectsClasses(t, []impl.Class{first, c})
	rejectsClasses(t, []impl.Class{c, last})
}

func checkClass(t *testing.T, c impl.Class) {
	t.Helper()
	if !isOneClass(c) {
		rejectsClass(t, c)
	} else if !impl.IsClass(c) || !impl.AreClasses([]impl.Class{c}) {
		t.Errorf("%v is not valid", c)
	}
}

func TestNumbersOfClasses(t *testing.T) {
	good := impl.Class{Id: 5, Name: "elite", Low: 18, High: 40, Women: true, Course: 2, Most: 5}
	c := good
	for c.Id = -3; c.Id <= 1003; c.Id++ {
		checkClass(t, c)
	}
	c = good
	for c.Course = -3; c.Course <= 1003; c.Course++ {
		checkClass(t, c)
	}
	c = good
	for c.Most = -3; c.Most <= 1003; c.Most++ {
		checkClass(t, c)
	}
	c = good
	for c.Low = -3; c.Low <= 123; c.Low++ {
		for c.High = -3; c.High <= 123; c.High++ {
			checkClass(t, c)
		}
	}
	for _, n := range farNumbers {
		for _, change := range []func(*impl.Class){
			func(c *impl.Class) { c.Id = n },
			func(c *impl.Class) { c.Low = n },
			func(c *impl.Class) { c.High = n },
			func(c *impl.Class) { c.Low, c.High = n, n },
			func(c *impl.Class) { c.Course = n },
			func(c *impl.Class) { c.Most = n },
		} {
			c := good
			change(&c)
			rejectsClass(t, c)
		}
	}
	rejectsClass(t, impl.Class{})
}

func TestSexesOfClasses(t *testing.T) {
	c := impl.Class{Id: 5, Name: "elite", Low: 18, High: 40, Course: 2, Most: 5}
	rejectsClass(t, c)
	for _, sex := range sexes {
		c.Women, c.Men = sex[0], sex[1]
		if !impl.IsClass(c) || !impl.AreClasses([]impl.Class{c}) {
			t.Errorf("%v is not valid", c)
		}
	}
}

func TestNamesOfClasses(t *testing.T) {
	c := impl.Class{Id: 5, Low: 18, High: 40, Men: true, Course: 2, Most: 5}
	for _, c.Name = range wordsAndOthers {
		checkClass(t, c)
	}
	for _, word := range []string{"a", "abc", "abcdefghij"} {
		for place := range len(word) {
			for b := range 256 {
				c.Name = word[:place] + string([]byte{byte(b)}) + word[place+1:]
				checkClass(t, c)
			}
		}
	}
}

func TestEverySmallListOfClasses(t *testing.T) {
	valid := 0
	var extend func(list []impl.Class)
	extend = func(list []impl.Class) {
		if !areSomeClasses(list) {
			rejectsClasses(t, list)
		} else if valid++; !impl.AreClasses(list) {
			t.Errorf("%v are not valid", list)
		}
		if len(list) == 4 {
			return
		}
		for _, id := range []int{0, 1, 2, 98, 99, 100} {
			for _, name := range []string{"a", "b", "aa"} {
				c := spanClass(20, 40, 2)
				c.Id, c.Name = id, name
				extend(append(slices.Clone(list), c))
			}
		}
	}
	extend(nil)
	// No Class; four Ids and three Names; six pairs and four triples of Ids, each with different Names.
	if want := 1 + 4*3 + 6*6 + 4*6; valid != want {
		t.Errorf("%d lists are valid and not %d", valid, want)
	}
}

func TestLongListsOfClasses(t *testing.T) {
	for count := range 12 {
		list := sampleClasses(count, count)
		if impl.AreClasses(list) != (count <= 8) {
			t.Errorf("AreClasses of %d", count)
		}
		if count > 8 {
			rejectsClasses(t, list)
			continue
		}
		for i := range list {
			for j := range i {
				spoiled := slices.Clone(list)
				spoiled[i].Id = list[j].Id
				rejectsClasses(t, spoiled)
				spoiled = slices.Clone(list)
				spoiled[i].Name = list[j].Name
				rejectsClasses(t, spoiled)
				spoiled = slices.Clone(list)
				spoiled[i], spoiled[j] = spoiled[j], spoiled[i]
				rejectsClasses(t, spoiled)
				// All but the Ids and Names may be the same.
				same := slices.Clone(list)
				same[i] = list[j]
				same[i].Id, same[i].Name = list[i].Id, list[i].Name
				if !impl.AreClasses(same) {
					t.Errorf("%v are not valid", same)
				}
			}
			spoiled := slices.Clone(list)
			spoiled[i].Name = "Elite"
			rejectsClasses(t, spoiled)
		}
	}
}

// bestOf returns the Id of the best Class, or 0, by a number that tells how good each one is.
func bestOf(list []impl.Class, r impl.Runner) int {
	best, least := 0, 1<<30
	for _, c := range list {
		badness := (c.High-c.Low)*1000 + c.Id
		if c.Women == c.Men {
			badness += 500
		}
		if isFor(c, r) && badness < least {
			best, least = c.Id, badness
		}
	}
	return best
}

// checkAdmission compares DoesAdmit, ClassesFor and BestClass with isFor and bestOf.
func checkAdmission(t *testing.T, list []impl.Class, r impl.Runner) {
	t.Helper()
	want := []int{}
	for _, c := range list {
		if is, ok := impl.DoesAdmit(c, r); !ok || is != isFor(c, r) {
			t.Errorf("DoesAdmit(%v, %v) = %v, %v", c, r, is, ok)
		}
		if isFor(c, r) {
			want = append(want, c.Id)
		}
	}
	if ids, ok := impl.ClassesFor(list, r); !ok || !slices.Equal(ids, want) {
		t.Errorf("ClassesFor(%v, %v) = %v, %v", list, r, ids, ok)
	}
	best, ok := impl.BestClass(list, r)
	if ok != (len(want) > 0) || best != bestOf(list, r) || ok && !slices.Contains(want, best) {
		t.Errorf("BestClass(%v, %v) = %d, %v", list, r, best, ok)
	}
}

func TestAgesAtTheBoundsOfAClass(t *testing.T) {
	for low := 0; low <= 120; low++ {
		for _, high := range []int{low, low + 1, low + 7, 105, 106, 107, 120} {
			if high < low || high > 120 {
				continue
			}
			for sex := range sexes {
				c := spanClass(low, high, sex)
				for _, age := range []int{6, 7, low - 1, low, low + 1, high - 1, high, high + 1, 105, 106} {
					if age < 6 || age > 106 {
						continue
					}
					for _, woman := range []bool{true, false} {
						want := low <= age && age <= high && (sex == 2 || woman == (sex == 0))
						if is, ok := impl.DoesAdmit(c, aged(age, woman)); !ok || is != want {
							t.Errorf("DoesAdmit(%v) of the age %d, %v = %v, %v", c, age, woman, is, ok)
						}
						checkAdmission(t, []impl.Class{c}, aged(age, woman))
					}
				}
			}
		}
	}
}

func TestInvalidRunnersAreNotAdmitted(t *testing.T) {
	list := numbered([]impl.Class{spanClass(0, 120, 2), spanClass(6, 106, 0), spanClass(5, 107, 1)})
	for _, change := range []func(*impl.Runner){
		func(r *impl.Runner) { r.Id = 0 }, func(r *impl.Runner) { r.Id = 1000 }, func(r *impl.Runner) { r.Name = "" },
		func(r *impl.Runner) { r.Name = "Ann" }, func(r *impl.Runner) { r.Club = "abcdefghijk" }, func(r *impl.Runner) { r.Born = 1919 },
		func(r *impl.Runner) { r.Born = 2021 }, func(r *impl.Runner) { r.Born = 0 }, func(r *impl.Runner) { r.Card = -1 },
		func(r *impl.Runner) { r.Card = 10000 }, func(r *impl.Runner) { *r = impl.Runner{} },
	} {
		for _, woman := range []bool{true, false} {
			r := aged(30, woman)
			change(&r)
			for _, c := range list {
				if is, ok := impl.DoesAdmit(c, r); is || ok {
					t.Errorf("DoesAdmit(%v, %v) = %v, %v", c, r, is, ok)
				}
			}
			for _, classes := range [][]impl.Class{nil, list, list[:1]} {
				if ids, ok := impl.ClassesFor(classes, r); ok || len(ids) != 0 {
					t.Errorf("ClassesFor(%v, %v) = %v, %v", classes, r, ids, ok)
				}
				if id, ok := impl.BestClass(classes, r); ok || id != 0 {
					t.Errorf("BestClass(%v, %v) = %d, %v", classes, r, id, ok)
				}
				if ids, ok := impl.FillClasses(classes, []impl.Runner{r}); ok || len(ids) != 0 {
					t.Errorf("FillClasses(%v, %v) = %v, %v", classes, r, ids, ok)
				}
			}
		}
	}
}

// TestTheBestClassAdmitsTheRunner takes all lists of up to three Classes with ages near 20, of
// which many have the same ages or equally many.
func TestTheBestClassAdmitsTheRunner(t *testing.T) {
	spans := [][2]int{{20, 20}, {21, 21}, {20, 21}, {19, 20}, {19, 21}, {18, 20}, {0, 19}, {0, 120}}
	runners := []impl.Runner{}
	for age := 18; age <= 22; age++ {
		runners = append(runners, aged(age, true), aged(age, false))
	}
	var extend func(list []impl.Class)
	extend = func(list []impl.Class) {
		classes := numbered(list)
		for _, r := range runners {
			checkAdmission(t, classes, r)
		}
		if len(list) == 3 {
			return
		}
		for _, span := range spans {
			for sex := range sexes {
				extend(append(slices.Clone(list), spanClass(span[0], span[1], sex)))
			}
		}
	}
	extend(nil)
}

func TestClassesForEveryAge(t *testing.T) {
	for count := range 9 {
		for seed := range 12 {
			list := sampleClasses(count, seed)
			for age := 6; age <= 106; age++ {
				checkAdmission(t, list, aged(age, true))
				checkAdmission(t, list, aged(age, false))
			}
		}
	}
}

func TestBestClassByHand(t *testing.T) {
	w, m, both := spanClass(20, 30, 0), spanClass(20, 30, 1), spanClass(20, 30, 2)
	for _, c := range []struct {
		list []impl.Class
		// The places of the best Classes for a woman and a man of 25, from 1 on, or 0.
		woman, man int
	}{
		{nil, 0, 0},
		{[]impl.Class{w}, 1, 0},
		{[]impl.Class{m}, 0, 1},
		{[]impl.Class{both}, 1, 1},
		// The same ages: one sex before both, then the smallest Id.
		{[]impl.Class{both, w, m}, 2, 3},
		{[]impl.Class{both, both, w, w, m, m}, 3, 5},
		{[]impl.Class{both, both, m}, 1, 3},
		{[]impl.Class{w, both, both}, 1, 2},
		{[]impl.Class{m, m, both, w, w}, 4, 1},
		// A smaller span counts more than the sex, and that more than the Id.
		{[]impl.Class{w, m, spanClass(20, 29, 2)}, 3, 3},
		{[]impl.Class{w, m, spanClass(21, 30, 2)}, 3, 3},
		{[]impl.Class{w, m, spanClass(20, 31, 2)}, 1, 2},
		{[]impl.Class{spanClass(0, 120, 0), spanClass(0, 120, 1), both}, 3, 3},
		{[]impl.Class{spanClass(25, 25, 2), w, m}, 1, 1},
		{[]impl.Class{spanClass(24, 25, 2), spanClass(25, 26, 0), spanClass(25, 26, 1)}, 2, 3},
		// Equally many ages, but not the same ones.
		{[]impl.Class{spanClass(15, 25, 2), spanClass(25, 35, 1), spanClass(18, 28, 0)}, 3, 2},
		{[]impl.Class{spanClass(25, 35, 2), spanClass(15, 25, 2)}, 1, 1},
		// The smallest span is not that of an age beside it.
		{[]impl.Class{spanClass(26, 26, 2), spanClass(24, 24, 2), both}, 3, 3},
		{[]impl.Class{spanClass(0, 24, 2), spanClass(26, 120, 2)}, 0, 0},
	} {
		list := numbered(c.list)
		for woman, place := range map[bool]int{true: c.woman, false: c.man} {
			want := 0
			if place > 0 {
				want = list[place-1].Id
			}
			if id, ok := impl.BestClass(list, aged(25, woman)); ok != (want != 0) || id != want {
				t.Errorf("BestClass(%v) of a woman, %v, = %d, %v", list, woman, id, ok)
			}
		}
	}
}

func TestCourses(t *testing.T) {
	for count := range 9 {
		for seed := range 20 {
			list := sampleClasses(count, seed)
			courses, runBy := map[int]int{}, map[int]int{}
			for _, c := range list {
				courses[c.Id] = c.Course
				runBy[c.Course]++
			}
			for id := -2; id <= 102; id++ {
				want, has := courses[id]
				if course, ok := impl.CourseOf(list, id); ok != has || course != want {
					t.Errorf("CourseOf(%v, %d) = %d, %v", list, id, course, ok)
				}
			}
			for _, id := range farNumbers {
				if course, ok := impl.CourseOf(list, id); ok || course != 0 {
					t.Errorf("CourseOf(%v, %d) = %d, %v", list, id, course, ok)
				}
			}
			want := []int{}
			for course := 1; course <= 20; course++ {
				if runBy[course] > 1 {
					want = append(want, course)
				}
			}
			if shared, ok := impl.SharedCourses(list); !ok || !slices.Equal(shared, want) {
				t.Errorf("SharedCourses(%v) = %v, %v", list, shared, ok)
			}
		}
	}
}

func TestSharedCoursesByHand(t *testing.T) {
	for _, c := range []struct{ courses, want []int }{
		{nil, nil},
		{[]int{1}, nil},
		{[]int{20}, nil},
		{[]int{1, 1}, []int{1}},
		{[]int{20, 20}, []int{20}},
		{[]int{20, 19}, nil},
		{[]int{20, 1, 20, 1}, []int{1, 20}},
		{[]int{7, 7, 7}, []int{7}},
		{[]int{9, 8, 7, 6, 6, 7, 8, 9}, []int{6, 7, 8, 9}},
		{[]int{1, 2, 3, 4, 5, 6, 7, 8}, nil},
		{[]int{5, 5, 5, 5, 5, 5, 5, 5}, []int{5}},
		{[]int{3, 10, 2, 10, 3, 1, 2, 2}, []int{2, 3, 10}},
	} {
		list := sampleClasses(len(c.courses), 1)
		for i, course := range c.courses {
			list[i].Course = course
		}
		if shared, ok := impl.SharedCourses(list); !ok || !slices.Equal(shared, c.want) {
			t.Errorf("SharedCourses of %v = %v, %v", c.courses, shared, ok)
		}
	}
}

// checkAgesWithout compares AgesWithout with a look at each age.
func checkAgesWithout(t *testing.T, list []impl.Class) {
	t.Helper()
	for _, woman := range []bool{true, false} {
		var has [122]bool
		has[121] = true
		for _, c := range list {
			for age := c.Low; age <= c.High; age++ {
				has[age] = has[age] || woman && c.Women || !woman && c.Men
			}
		}
		want := [][]int{}
		from := 0
		for age, found := range has {
			if found {
				if from < age {
					want = append(want, []int{from, age - 1})
				}
				from = age + 1
			}
		}
		if spans, ok := impl.AgesWithout(list, woman); !ok || !slices.EqualFunc(spans, want, slices.Equal) {
			t.Errorf("AgesWithout(%v, %v) = %v, %v", list, woman, spans, ok)
		}
	}
}

func TestAgesWithout(t *testing.T) {
	spans := [][2]int{}
	for _, low := range []int{0, 1, 2, 60, 61, 119, 120} {
		for _, high := range []int{0, 1, 2, 60, 61, 119, 120} {
			if low <= high {
				spans = append(spans, [2]int{low, high})
			}
		}
	}
	checkAgesWithout(t, nil)
	for _, a := range spans {
		for sexA := range sexes {
			first := spanClass(a[0], a[1], sexA)
			checkAgesWithout(t, []impl.Class{first})
			for _, b := range spans {
				for sexB := range sexes {
					checkAgesWithout(t, numbered([]impl.Class{first, spanClass(b[0], b[1], sexB)}))
				}
				for _, c := range spans {
					checkAgesWithout(t, numbered([]impl.Class{first, spanClass(b[0], b[1], 2), spanClass(c[0], c[1], 2)}))
				}
			}
		}
	}
	for count := range 9 {
		for seed := range 200 {
			checkAgesWithout(t, sampleClasses(count, seed))
		}
	}
}

func TestAgesWithoutByHand(t *testing.T) {
	for _, c := range []struct {
		list       []impl.Class
		woman, man [][]int
	}{
		{nil, [][]int{{0, 120}}, [][]int{{0, 120}}},
		{[]impl.Class{spanClass(0, 120, 2)}, nil, nil},
		{[]impl.Class{spanClass(0, 120, 0)}, nil, [][]int{{0, 120}}},
		{[]impl.Class{spanClass(1, 119, 1)}, [][]int{{0, 120}}, [][]int{{0, 0}, {120, 120}}},
		{[]impl.Class{spanClass(0, 0, 0), spanClass(120, 120, 1)}, [][]int{{1, 120}}, [][]int{{0, 119}}},
		// Ages that follow each other, and an age between.
		{[]impl.Class{spanClass(0, 20, 2), spanClass(21, 120, 2)}, nil, nil},
		{[]impl.Class{spanClass(0, 20, 2), spanClass(22, 120, 2)}, [][]int{{21, 21}}, [][]int{{21, 21}}},
		{[]impl.Class{spanClass(22, 120, 0), spanClass(0, 20, 0), spanClass(21, 21, 1)}, [][]int{{21, 21}}, [][]int{{0, 20}, {22, 120}}},
		// One Class within another one, and one that ends later than the next one.
		{[]impl.Class{spanClass(10, 60, 2), spanClass(20, 30, 2), spanClass(62, 70, 2)}, [][]int{{0, 9}, {61, 61}, {71, 120}}, [][]int{{0, 9}, {61, 61}, {71, 120}}},
		{[]impl.Class{spanClass(20, 30, 0), spanClass(10, 60, 0)}, [][]int{{0, 9}, {61, 120}}, [][]int{{0, 120}}},
		// The same ages twice, or for one sex each.
		{[]impl.Class{spanClass(10, 20, 2), spanClass(10, 20, 2)}, [][]int{{0, 9}, {21, 120}}, [][]int{{0, 9}, {21, 120}}},
		{[]impl.Class{spanClass(10, 20, 0), spanClass(15, 25, 1)}, [][]int{{0, 9}, {21, 120}}, [][]int{{0, 14}, {26, 120}}},
		{[]impl.Class{spanClass(106, 120, 2), spanClass(0, 6, 2)}, [][]int{{7, 105}}, [][]int{{7, 105}}},
	} {
		list := numbered(c.list)
		for woman, want := range map[bool][][]int{true: c.woman, false: c.man} {
			if spans, ok := impl.AgesWithout(list, woman); !ok || !slices.EqualFunc(spans, want, slices.Equal) {
				t.Errorf("AgesWithout(%v, %v) = %v, %v", list, woman, spans, ok)
			}
		}
	}
}

// checkFilled compares FillClasses with giving the places of all Classes, one by one.
func checkFilled(t *testing.T, list []impl.Class, runners []impl.Runner) {
	t.Helper()
	places := []impl.Class{}
	for _, c := range list {
		for range c.Most {
			places = append(places, c)
		}
	}
	want := []int{}
	for _, r := range runners {
		place := slices.IndexFunc(places, func(c impl.Class) bool { return isFor(c, r) })
		if place < 0 {
			want = append(want, 0)
			continue
		}
		want = append(want, places[place].Id)
		places = slices.Delete(places, place, place+1)
	}
	if ids, ok := impl.FillClasses(list, runners); !ok || !slices.Equal(ids, want) {
		t.Errorf("FillClasses(%v, %v) = %v, %v", list, runners, ids, ok)
	}
}

func TestFillClasses(t *testing.T) {
	lists := [][]impl.Runner{
		nil, peopleAged(20), peopleAged(21), peopleAged(20, 20, 20, 20, 20), peopleAged(20, 21, 22, 23, 24, 25),
		peopleAged(25, 24, 23, 22, 21, 20), peopleAged(22, 20, 21, 22, 20, 21, 22, 20, 21, 20), peopleAged(6, 106, 20, 19),
	}
	spans := [][2]int{{20, 20}, {20, 22}, {21, 24}, {0, 120}}
	var extend func(list []impl.Class)
	extend = func(list []impl.Class) {
		classes := numbered(list)
		for _, runners := range lists {
			checkFilled(t, classes, runners)
		}
		if len(list) == 3 {
			return
		}
		for _, span := range spans {
			for most := 1; most <= 3; most++ {
				c := spanClass(span[0], span[1], 2-(most+len(list))%2*2)
				c.Most = most
				extend(append(slices.Clone(list), c))
			}
		}
	}
	extend(nil)
	for count := range 9 {
		for seed := range 40 {
			list := sampleClasses(count, seed)
			for size := range 11 {
				runners := people(size)
				for i := range runners {
					runners[i].Born = 2026 - (6 + (i*i*7+seed*13)%101)
				}
				checkFilled(t, list, runners)
				checkFilled(t, list, people(size))
			}
		}
	}
}

// withMost gives the first Classes their greatest numbers of runners.
func withMost(list []impl.Class, most ...int) []impl.Class {
	list = numbered(list)
	for i, n := range most {
		list[i].Most = n
	}
	return list
}

func TestFillClassesByHand(t *testing.T) {
	both := spanClass(20, 30, 2)
	women, wide := spanClass(20, 30, 0), spanClass(0, 120, 2)
	for _, c := range []struct {
		list []impl.Class
		ages []int
		// The places of the Classes in the list, from 1 on, or 0.
		want []int
	}{
		{nil, []int{20, 21}, []int{0, 0}},
		{withMost([]impl.Class{both}), nil, nil},
		// Full with exactly so many, and with one more.
		{withMost([]impl.Class{both}, 1), []int{20, 21}, []int{1, 0}},
		{withMost([]impl.Class{both}, 2), []int{20, 21}, []int{1, 1}},
		{withMost([]impl.Class{both}, 2), []int{20, 21, 22}, []int{1, 1, 0}},
		{withMost([]impl.Class{both, wide}, 2, 1), []int{20, 21, 22, 23}, []int{1, 1, 2, 0}},
		{withMost([]impl.Class{both}, 10), []int{20, 20, 20, 20, 20, 20, 20, 20, 20, 20}, []int{1, 1, 1, 1, 1, 1, 1, 1, 1, 1}},
		{withMost([]impl.Class{both}, 9), []int{20, 20, 20, 20, 20, 20, 20, 20, 20, 20}, []int{1, 1, 1, 1, 1, 1, 1, 1, 1, 0}},
		{withMost([]impl.Class{both}, 500), []int{20, 20, 20, 20, 20, 20, 20, 20, 20, 20}, []int{1, 1, 1, 1, 1, 1, 1, 1, 1, 1}},
		// Each age at a bound and beside it.
		{withMost([]impl.Class{both}), []int{19, 20, 30, 31}, []int{0, 1, 1, 0}},
		// The first Class and not the best one.
		{withMost([]impl.Class{wide, both}, 1, 1), []int{25, 25, 25}, []int{1, 2, 0}},
		// Nobody is moved to make room: the second one finds the only Class full.
		{withMost([]impl.Class{both, wide}, 1, 1), []int{20, 6, 22}, []int{1, 2, 0}},
		{withMost([]impl.Class{wide, both}, 1, 1), []int{20, 6, 22}, []int{1, 0, 2}},
		// Who is not admitted takes no place, and a full Class does not stop those after it.
		{withMost([]impl.Class{women, both}, 1, 1), []int{21, 23, 20, 22}, []int{2, 0, 1, 0}},
		{withMost([]impl.Class{women, both}, 2, 1), []int{21, 23, 20, 22}, []int{2, 0, 1, 1}},
		{withMost([]impl.Class{women, both, wide}, 1, 1, 1), []int{20, 22, 24, 26}, []int{1, 2, 3, 0}},
		{withMost([]impl.Class{both, wide}, 1, 3), []int{6, 20, 106, 20, 20}, []int{2, 1, 2, 2, 0}},
	} {
		want := []int{}
		for _, place := range c.want {
			if place == 0 {
				want = append(want, 0)
			} else {
				want = append(want, c.list[place-1].Id)
			}
		}
		if ids, ok := impl.FillClasses(c.list, peopleAged(c.ages...)); !ok || !slices.Equal(ids, want) {
			t.Errorf("FillClasses(%v) of the ages %v = %v, %v", c.list, c.ages, ids, ok)
		}
	}
}

func TestFillClassesOfInvalidRunners(t *testing.T) {
	for count := range 9 {
		list := sampleClasses(count, 3)
		runners := people(11)
		swapped := peopleAged(20, 21)
		swapped[0], swapped[1] = swapped[1], swapped[0]
		cards := peopleAged(20, 21, 22)
		cards[0].Card, cards[2].Card = 815, 815
		for _, bad := range [][]impl.Runner{runners, swapped, cards, {aged(20, true), aged(21, false)}, {{}}, {aged(107, true)}, {aged(5, true)}} {
			if ids, ok := impl.FillClasses(list, bad); ok || len(ids) != 0 {
				t.Errorf("FillClasses(%v, %v) = %v, %v", list, bad, ids, ok)
			}
		}
		if ids, ok := impl.FillClasses(list, runners[:10]); !ok || len(ids) != 10 {
			t.Errorf("FillClasses(%v, %v) = %v, %v", list, runners[:10], ids, ok)
		}
	}
}

// TestClassesWithTheirNumbersAtTheLimits takes the smallest and the greatest Ids and Courses.
func TestClassesWithTheirNumbersAtTheLimits(t *testing.T) {
	list := []impl.Class{spanClass(20, 30, 2), spanClass(20, 30, 1), spanClass(20, 30, 0), spanClass(20, 30, 0)}
	for i, id := range []int{1, 2, 98, 99} {
		list[i].Id, list[i].Name, list[i].Course, list[i].Most = id, string(rune('a'+i)), []int{1, 20, 1, 20}[i], 1
	}
	for i := range list {
		for j := i + 1; j <= len(list); j++ {
			checkFilled(t, list[i:j], peopleAged(20, 22, 24, 26))
			checkFilled(t, list[i:j], peopleAged(20, 21, 22, 23))
			for _, woman := range []bool{true, false} {
				checkAdmission(t, list[i:j], aged(20, woman))
				checkAdmission(t, list[i:j], aged(31, woman))
			}
		}
		if course, ok := impl.CourseOf(list, list[i].Id); !ok || course != list[i].Course {
			t.Errorf("CourseOf(%v, %d) = %d, %v", list, list[i].Id, course, ok)
		}
	}
	if ids, ok := impl.FillClasses(list, peopleAged(20, 22, 24, 26)); !ok || !slices.Equal(ids, []int{1, 98, 99, 0}) {
		t.Errorf("FillClasses(%v) = %v, %v", list, ids, ok)
	}
	if shared, ok := impl.SharedCourses(list); !ok || !slices.Equal(shared, []int{1, 20}) {
		t.Errorf("SharedCourses(%v) = %v, %v", list, shared, ok)
	}
}

// classOf reads a text by its form.
func classOf(text string) (impl.Class, bool) {
	found := classForm.FindStringSubmatch(text)
	if found == nil {
		return impl.Class{}, false
	}
	c := impl.Class{Name: found[2], Women: found[5] != "m", Men: found[5] != "w"}
	for i, number := range map[int]*int{1: &c.Id, 3: &c.Low, 4: &c.High, 6: &c.Course, 7: &c.Most} {
		fmt.Sscan(found[i], number)
	}
	if c.Low > c.High {
		return impl.Class{}, false
	}
	return c, true
}

func checkParsedClass(t *testing.T, text string) {
	t.Helper()
	want, valid := classOf(text)
	if c, ok := impl.ParseClass(text); ok != valid || c != want {
		t.Errorf("ParseClass(%q) = %v, %v", text, c, ok)
	}
}

func checkClassText(t *testing.T, c impl.Class, want string) {
	t.Helper()
	if text, ok := impl.ClassText(c); !ok || text != want {
		t.Errorf("ClassText(%v) = %q, %v", c, text, ok)
	}
	if back, ok := impl.ParseClass(want); !ok || back != c {
		t.Errorf("ParseClass(%q) = %v, %v", want, back, ok)
	}
}

func TestClassTexts(t *testing.T) {
	for text, c := range map[string]impl.Class{
		"5 elite 18-40 w course 2 most 5":             {Id: 5, Name: "elite", Low: 18, High: 40, Women: true, Course: 2, Most: 5},
		"2 junior 6-20 wm course 1 most 1":            {Id: 2, Name: "junior", Low: 6, High: 20, Women: true, Men: true, Course: 1, Most: 1},
		"1 a 0-0 m course 1 most 1":                   {Id: 1, Name: "a", Men: true, Course: 1, Most: 1},
		"99 zzzzzzzzzz 120-120 wm course 20 most 500": {Id: 99, Name: "zzzzzzzzzz", Low: 120, High: 120, Women: true, Men: true, Course: 20, Most: 500},
		"10 course 0-120 w course 10 most 10":         {Id: 10, Name: "course", High: 120, Women: true, Course: 10, Most: 10},
		"20 most 100-109 m course 20 most 100":        {Id: 20, Name: "most", Low: 100, High: 109, Men: true, Course: 20, Most: 100},
		"11 w 9-10 w course 11 most 11":               {Id: 11, Name: "w", Low: 9, High: 10, Women: true, Course: 11, Most: 11},
		"12 m 7-7 wm course 7 most 7":                 {Id: 12, Name: "m", Low: 7, High: 7, Women: true, Men: true, Course: 7, Most: 7},
		"13 wm 99-100 m course 9 most 99":             {Id: 13, Name: "wm", Low: 99, High: 100, Men: true, Course: 9, Most: 99},
	} {
		checkClassText(t, c, text)
	}
}

func TestEveryNumberOfAClassRoundTrips(t *testing.T) {
	words := []string{"w", "m", "wm"}
	for low := 0; low <= 120; low++ {
		for high := low; high <= 120; high++ {
			c := spanClass(low, high, (low+high)%3)
			c.Id, c.Course, c.Most = 1+(low+high*7)%99, 1+(low*3+high)%20, 1+(low*121+high)%500
			checkClassText(t, c, fmt.Sprintf("%d a %d-%d %s course %d most %d", c.Id, low, high, words[(low+high)%3], c.Course, c.Most))
		}
	}
	c := spanClass(18, 40, 1)
	for c.Id = 1; c.Id <= 99; c.Id++ {
		checkClassText(t, c, fmt.Sprintf("%d a 18-40 m course 1 most 500", c.Id))
	}
	c.Id = 99
	for c.Course = 1; c.Course <= 20; c.Course++ {
		checkClassText(t, c, fmt.Sprintf("99 a 18-40 m course %d most 500", c.Course))
	}
	c.Course = 20
	for c.Most = 1; c.Most <= 500; c.Most++ {
		checkClassText(t, c, fmt.Sprintf("99 a 18-40 m course 20 most %d", c.Most))
	}
	c.Most = 500
	for _, c.Name = range wordsAndOthers {
		if isOneClass(c) {
			checkClassText(t, c, "99 "+c.Name+" 18-40 m course 20 most 500")
		}
	}
}

func TestParseClassRejects(t *testing.T) {
	for _, s := range []string{
		"", " ", "5", "5 elite", "5 elite 18-40", "5 elite 18-40 w", "5 elite 18-40 w course", "5 elite 18-40 w course 2",
		"5 elite 18-40 w course 2 most", "5 elite 18-40 w course 2 most ", "5 elite 18-40 w course 2 most 5 ", " 5 elite 18-40 w course 2 most 5",
		"5  elite 18-40 w course 2 most 5", "5 elite  18-40 w course 2 most 5", "5 elite 18-40  w course 2 most 5", "5 elite 18-40 w course 2 most 5\n",
		"5\telite 18-40 w course 2 most 5", "elite 18-40 w course 2 most 5", "5 18-40 w course 2 most 5", "5 elite w course 2 most 5",
		"5 elite 18-40 course 2 most 5", "5 elite 18-40 w 2 most 5", "5 elite 18-40 w course most 5", "5 elite 18-40 w course 2 5",
		// The ages.
		"5 elite 40-18 w course 2 most 5", "5 elite 41-40 w course 2 most 5", "5 elite 18 - 40 w course 2 most 5", "5 elite 18 -40 w course 2 most 5",
		"5 elite 18- 40 w course 2 most 5", "5 elite 18--40 w course 2 most 5", "5 elite -18-40 w course 2 most 5", "5 elite -1-40 w course 2 most 5",
		"5 elite -40 w course 2 most 5", "5 elite 18- w course 2 most 5", "5 elite - w course 2 most 5", "5 elite 18 w course 2 most 5",
		"5 elite 18-121 w course 2 most 5", "5 elite 121-121 w course 2 most 5", "5 elite 018-40 w course 2 most 5", "5 elite 18-040 w course 2 most 5",
		"5 elite +18-40 w course 2 most 5", "5 elite 18-+40 w course 2 most 5", "5 elite 18-40-50 w course 2 most 5", "5 elite 18-40- w course 2 most 5",
		"5 elite -0-40 w course 2 most 5", "5 elite 0--0 w course 2 most 5", "5 elite 00-40 w course 2 most 5", "5 elite 18_40 w course 2 most 5",
		"5 elite 18\u201340 w course 2 most 5", "5 elite x-40 w course 2 most 5", "5 elite 18-x w course 2 most 5", "5 elite 18,40 w course 2 most 5",
		"5 elite 0-4294967336 w course 2 most 5", "5 elite 18-99999999999999999999 w course 2 most 5",
		// The sexes.
		"5 elite 18-40 mw course 2 most 5", "5 elite 18-40 ww course 2 most 5", "5 elite 18-40 mm course 2 most 5", "5 elite 18-40 wmw course 2 most 5",
		"5 elite 18-40 wmm course 2 most 5", "5 elite 18-40 W course 2 most 5", "5 elite 18-40 M course 2 most 5", "5 elite 18-40 w m course 2 most 5",
		"5 elite 18-40 x course 2 most 5", "5 elite 18-40  course 2 most 5", "5 elite 18-40 woman course 2 most 5", "5 elite 18-40 w-m course 2 most 5",
		// The words.
		"5 elite 18-40 w Course 2 most 5", "5 elite 18-40 w courses 2 most 5", "5 elite 18-40 w cours 2 most 5", "5 elite 18-40 w most 2 course 5",
		"5 elite 18-40 w course 2 Most 5", "5 elite 18-40 w course 2 mos 5", "5 elite 18-40 w  2 most 5", "5 elite 18-40 w course 2  5",
		"5 Elite 18-40 w course 2 most 5", "5 el1te 18-40 w course 2 most 5", "5 abcdefghijk 18-40 w course 2 most 5", "5  18-40 w course 2 most 5",
		"5 elite w 18-40 course 2 most 5", "elite 5 18-40 w course 2 most 5", "5 \u00e9lite 18-40 w course 2 most 5",
		// The other numbers.
		"0 elite 18-40 w course 2 most 5", "100 elite 18-40 w course 2 most 5", "05 elite 18-40 w course 2 most 5", "+5 elite 18-40 w course 2 most 5",
		"-5 elite 18-40 w course 2 most 5", "x elite 18-40 w course 2 most 5", "5. elite 18-40 w course 2 most 5", "4294967301 elite 18-40 w course 2 most 5",
		"5 elite 18-40 w course 0 most 5", "5 elite 18-40 w course 21 most 5", "5 elite 18-40 w course 02 most 5", "5 elite 18-40 w course -2 most 5",
		"5 elite 18-40 w course +2 most 5", "5 elite 18-40 w course x most 5", "5 elite 18-40 w course 4294967298 most 5", "5 elite 18-40 w course  most 5",
		"5 elite 18-40 w course 2 most 0", "5 elite 18-40 w course 2 most 501", "5 elite 18-40 w course 2 most 05", "5 elite 18-40 w course 2 most -5",
		"5 elite 18-40 w course 2 most +5", "5 elite 18-40 w course 2 most x", "5 elite 18-40 w course 2 most 4294967301",
		"5 elite 18-40 w course 2 most 5\x00", "5 elite 18-40 w course 2 most 5 most 5", "5 elite 18-40 w course 2 most 5 5",
		"5 elite 18-40 w course 2 most 5\n6 open 0-120 wm course 2 most 5", "5 elite 18-40 w course 2 most 5 6 open 0-120 wm course 2 most 5",
	} {
		if c, ok := impl.ParseClass(s); ok || c != (impl.Class{}) {
			t.Errorf("ParseClass(%q) = %v, %v", s, c, ok)
		}
		checkParsedClass(t, s)
	}
}

func TestParseClassOfTextsChangedInOnePlace(t *testing.T) {
	for _, text := range []string{
		"5 elite 18-40 w course 2 most 5", "2 junior 6-20 wm course 1 most 1", "1 a 0-0 m course 1 most 1",
		"99 zzzzzzzzzz 120-120 wm course 20 most 500", "10 course 0-120 w course 10 most 10", "20 most 100-109 m course 20 most 100",
	} {
		eachTextChangedInOnePlace(text, func(changed string) { checkParsedClass(t, changed) })
	}
}

func TestParseClassOfChangedWords(t *testing.T) {
	others := []string{"", "0", "1", "20", "21", "99", "100", "500", "501", "0-120", "40-18", "7-7", "w", "m", "wm", "mw", "course", "most", "elite"}
	for _, text := range []string{"5 elite 18-40 w course 2 most 5", "13 wm 99-100 m course 9 most 99"} {
		eachTextWithChangedWords(text, others, func(changed string) { checkParsedClass(t, changed) })
	}
}
