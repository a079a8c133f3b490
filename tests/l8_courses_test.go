package tests

import (
	"math"
	"slices"
	"testing"

	"loop.example/g00938/impl"
)

// terrain is a Map with Controls and the best routes from each Code to each, as the search of
// bestRoutesTo finds them.
type terrain struct {
	placed
	best map[[2]int]timedRoute
}

func terrainOf(m impl.Map, list []impl.Control) terrain {
	best := map[[2]int]timedRoute{}
	for _, b := range list {
		routes := bestRoutesTo(m, b.Cell)
		for _, a := range list {
			best[[2]int{a.Code, b.Code}] = routes[a.Cell]
		}
	}
	return terrain{placed{m, list}, best}
}

// terrains are maps of all sizes, with rare and with many ties, and with 1 to 10 Controls.
func terrains() []terrain {
	all := []terrain{}
	for i, m := range routeMaps() {
		all = append(all, terrainOf(m, controlsOn(m, 1+(i*3+i/7)%10, i)))
	}
	for seed := range codeSets() {
		all = append(all, terrainOf(flatMap(6, 6), controlsOn(flatMap(6, 6), 10, seed)))
	}
	return all
}

// oddTerrains are Controls that are not valid, or stand on a Map that is not, with courses that
// would be in order but for that.
func oddTerrains() []terrain {
	codes := []int{31, 32, 33, 34, 35, 36, 37, 38, 39, 40, 41}
	eleven := []impl.Control{}
	for i, code := range codes {
		eleven = append(eleven, impl.Control{Code: code, Cell: 3 * i})
	}
	swapped := slices.Clone(eleven[:4])
	swapped[0], swapped[1] = swapped[1], swapped[0]
	again := slices.Clone(eleven[:4])
	again[3].Code = 33
	together := slices.Clone(eleven[:4])
	together[3].Cell = 0
	outside := slices.Clone(eleven[:4])
	outside[3].Cell = 36
	low := slices.Clone(eleven[:4])
	low[0].Code = 30
	high := slices.Clone(eleven[:4])
	high[3].Code = 100
	all := []terrain{}
	for _, list := range [][]impl.Control{nil, eleven, swapped, again, together, outside, low, high} {
		all = append(all, terrain{placed: placed{flatMap(6, 6), list}})
	}
	forbidden := flatMap(6, 6)
	forbidden.Cost[9] = 0
	all = append(all, terrain{placed: placed{forbidden, eleven[:4]}})
	for _, m := range append(invalidMaps(), flatMap(7, 1), flatMap(1, 7), flatMap(7, 6), flatMap(6, 7)) {
		all = append(all, terrain{placed: placed{m, []impl.Control{{Code: 31, Cell: 0}, {Code: 32, Cell: 1}, {Code: 33, Cell: 2}, {Code: 34, Cell: 3}}}})
	}
	return all
}

// legsOf returns the best routes of all legs, and false for what is no course. The route from a
// Control to itself has one cell, and where there is none it has no cells.
func (x terrain) legsOf(course []int) ([]timedRoute, bool) {
	legs := []timedRoute{}
	for i := 1; i < len(course); i++ {
		leg := x.best[[2]int{course[i-1], course[i]}]
		if len(leg.cells) < 2 {
			return nil, false
		}
		legs = append(legs, leg)
	}
	return legs, len(legs) >= 1 && len(legs) <= 7
}

func (x terrain) codes() []int {
	codes := []int{}
	for _, c := range x.list {
		codes = append(codes, c.Code)
	}
	return codes
}

// sampleCourse takes so many of some Codes in an order of its own for each seed: each at most once
// as long as they last, or any.
func sampleCourse(codes []int, length, seed int, once bool) []int {
	state := uint32(seed*7919 + length*31 + 17)
	left := slices.Clone(codes)
	course := []int{}
	for range length {
		if len(left) == 0 {
			left = slices.Clone(codes)
		}
		state = state*1664525 + 1013904223
		i := int(state>>16) % len(left)
		course = append(course, left[i])
		if once {
			left = slices.Delete(left, i, i+1)
		}
	}
	return course
}

// backLegsOf are the legs whose second cell is the last but one of the leg before.
func backLegsOf(legs []timedRoute) []int {
	back := []int{}
	for i := 1; i < len(legs); i++ {
		before := slices.Clone(legs[i-1].cells)
		slices.Reverse(before)
		if before[1] == legs[i].cells[1] {
			back = append(back, i)
		}
	}
	return back
}

// faultsOf follows the document's rules for the four faults.
func faultsOf(course []int, legs []timedRoute) []int {
	times := map[int]int{}
	for _, code := range course {
		times[code]++
	}
	has := [5]bool{1: len(course) <= 3, 4: len(backLegsOf(legs)) != 0}
	for _, n := range times {
		has[2] = has[2] || n >= 2
	}
	for _, leg := range legs {
		has[3] = has[3] || leg.time <= 2
	}
	faults := []int{}
	for fault := 1; fault <= 4; fault++ {
		if has[fault] {
			faults = append(faults, fault)
		}
	}
	return faults
}

// rejectsCourse checks that no function takes a list for a course; valid is a course, or not even
// that.
func rejectsCourse(t *testing.T, m impl.Map, list []impl.Control, course, valid []int) {
	t.Helper()
	if impl.IsCourse(m, list, course) {
		t.Errorf("%v is a course for %v on %v", course, list, m)
	}
	for name, numbers := range map[string]func(impl.Map, []impl.Control, []int) ([]int, bool){
		"LegTimes": impl.LegTimes, "CourseFaults": impl.CourseFaults, "BackLegs": impl.BackLegs, "ReverseCourse": impl.ReverseCourse,
	} {
		if got, ok := numbers(m, list, course); ok || len(got) != 0 {
			t.Errorf("%s(%v, %v, %v) = %v, %v", name, m, list, course, got, ok)
		}
	}
	if n, ok := impl.CourseTime(m, list, course); ok || n != 0 {
		t.Errorf("CourseTime(%v, %v, %v) = %d, %v", m, list, course, n, ok)
	}
	if n, ok := impl.CourseClimb(m, list, course); ok || n != 0 {
		t.Errorf("CourseClimb(%v, %v, %v) = %d, %v", m, list, course, n, ok)
	}
	if order, n, ok := impl.BestOrder(m, list, course); ok || n != 0 || len(order) != 0 {
		t.Errorf("BestOrder(%v, %v, %v) = %v, %d, %v", m, list, course, order, n, ok)
	}
	for _, pair := range [][2][]int{{course, valid}, {valid, course}, {course, course}} {
		if got, ok := impl.SharedLegs(m, list, pair[0], pair[1]); ok || len(got) != 0 {
			t.Errorf("SharedLegs(%v, %v, %v, %v) = %v, %v", m, list, pair[0], pair[1], got, ok)
		}
	}
}

// checkCourse compares all functions of one list with the rules.
func checkCourse(t *testing.T, x terrain, course []int) {
	t.Helper()
	legs, valid := x.legsOf(course)
	if !valid {
		rejectsCourse(t, x.m, x.list, course, x.someCourse())
		return
	}
	if !impl.IsCourse(x.m, x.list, course) {
		t.Errorf("%v is no course for %v on %v", course, x.list, x.m)
	}
	minutes, sum, climb := []int{}, 0, 0
	for _, leg := range legs {
		minutes = append(minutes, leg.time)
		sum += leg.time
		for i := 1; i < len(leg.cells); i++ {
			climb += climbOf(x.m, leg.cells[i-1], leg.cells[i])
		}
	}
	if got, ok := impl.LegTimes(x.m, x.list, course); !ok || !slices.Equal(got, minutes) {
		t.Errorf("LegTimes(%v, %v, %v) = %v, %v instead of %v", x.m, x.list, course, got, ok, minutes)
	}
	if got, ok := impl.CourseTime(x.m, x.list, course); !ok || got != sum {
		t.Errorf("CourseTime(%v, %v, %v) = %d, %v instead of %d", x.m, x.list, course, got, ok, sum)
	}
	if got, ok := impl.CourseClimb(x.m, x.list, course); !ok || got != climb {
		t.Errorf("CourseClimb(%v, %v, %v) = %d, %v instead of %d", x.m, x.list, course, got, ok, climb)
	}
	if got, ok := impl.BackLegs(x.m, x.list, course); !ok || !slices.Equal(got, backLegsOf(legs)) {
		t.Errorf("BackLegs(%v, %v, %v) = %v, %v instead of %v", x.m, x.list, course, got, ok, backLegsOf(legs))
	}
	if got, ok := impl.CourseFaults(x.m, x.list, course); !ok || !slices.Equal(got, faultsOf(course, legs)) {
		t.Errorf("CourseFaults(%v, %v, %v) = %v, %v instead of %v", x.m, x.list, course, got, ok, faultsOf(course, legs))
	}
	checkReversed(t, x, course)
	checkBestOrder(t, x, course)
}

// someCourse is a course if there is one of two Codes.
func (x terrain) someCourse() []int {
	for _, a := range x.codes() {
		for _, b := range x.codes() {
			if _, ok := x.legsOf([]int{a, b}); ok {
				return []int{a, b}
			}
		}
	}
	return nil
}

func checkReversed(t *testing.T, x terrain, course []int) {
	t.Helper()
	reversed, ok := impl.ReverseCourse(x.m, x.list, course)
	if !ok || len(reversed) != len(course) {
		t.Errorf("ReverseCourse(%v, %v, %v) = %v, %v", x.m, x.list, course, reversed, ok)
		return
	}
	for i := range course {
		if reversed[i] != course[len(course)-1-i] {
			t.Errorf("ReverseCourse(%v, %v, %v) = %v", x.m, x.list, course, reversed)
		}
	}
	if again, ok := impl.ReverseCourse(x.m, x.list, reversed); !ok || !slices.Equal(again, course) {
		t.Errorf("reversed twice, %v is %v, %v", course, again, ok)
	}
}

// ordersOf returns all orders of some numbers.
func ordersOf(numbers []int) [][]int {
	if len(numbers) == 0 {
		return [][]int{{}}
	}
	orders := [][]int{}
	for _, order := range ordersOf(numbers[1:]) {
		for i := range len(order) + 1 {
			orders = append(orders, slices.Insert(slices.Clone(order), i, numbers[0]))
		}
	}
	return orders
}

// reorderings returns the courses with the same start and finish and the others in all orders.
func reorderings(course []int) [][]int {
	last := len(course) - 1
	all := [][]int{}
	for _, order := range ordersOf(course[1:last]) {
		all = append(all, append(append([]int{course[0]}, order...), course[last]))
	}
	return all
}

// bestOf looks at all orders: the one of the least time is the best, or of several the smallest.
func (x terrain) bestOf(course []int) timedRoute {
	best := timedRoute{}
	for _, order := range reorderings(course) {
		sum := 0
		for i := 1; i < len(order); i++ {
			sum += x.best[[2]int{order[i-1], order[i]}].time
		}
		if found := (timedRoute{sum, order}); found.before(best) {
			best = found
		}
	}
	return best
}

// checkBestOrder takes a course.
func checkBestOrder(t *testing.T, x terrain, course []int) {
	t.Helper()
	different := slices.Clone(course)
	slices.Sort(different)
	want := timedRoute{}
	valid := len(course) <= 7 && len(slices.Compact(different)) == len(course)
	if valid {
		want = x.bestOf(course)
	}
	if order, n, ok := impl.BestOrder(x.m, x.list, course); ok != valid || n != want.time || !slices.Equal(order, want.cells) {
		t.Errorf("BestOrder(%v, %v, %v) = %v, %d, %v instead of %v", x.m, x.list, course, order, n, ok, want)
	}
}

func TestFaultNumbers(t *testing.T) {
	if got := [5]int{impl.FaultShort, impl.FaultAgain, impl.FaultClose, impl.FaultBack, impl.MaxCourse}; got != [5]int{1, 2, 3, 4, 8} {
		t.Error("the constants are", got)
	}
}

func TestSampledCourses(t *testing.T) {
	for i, x := range terrains() {
		codes := x.codes()
		if len(codes) == 0 {
			rejectsCourse(t, x.m, x.list, []int{31, 32}, nil)
			continue
		}
		for length := range 10 {
			checkCourse(t, x, sampleCourse(codes, length, i, true))
			checkCourse(t, x, sampleCourse(codes, length, i, false))
		}
	}
}

func TestEveryShortListAsCourse(t *testing.T) {
	for i, m := range routeMaps() {
		if len(m.Cost) > 9 || i%3 != 0 {
			continue
		}
		x := terrainOf(m, controlsOn(m, 3, i/3))
		codes := append(x.codes(), 30, 65)
		if len(x.list) == 0 {
			continue
		}
		var extend func(course []int)
		extend = func(course []int) {
			checkCourse(t, x, course)
			if len(course) == 4 {
				return
			}
			for _, code := range codes {
				extend(append(slices.Clone(course), code))
			}
		}
		extend(nil)
	}
}

// TestNoOrderTakesLessTime has the promise that no order of the other controls takes less time than
// the best order, by the program's own times of courses.
func TestNoOrderTakesLessTime(t *testing.T) {
	tried, tied := 0, 0
	for i, x := range terrains() {
		codes := x.codes()
		if length := 2 + i%6; len(codes) >= length {
			course := sampleCourse(codes, length, i, true)
			best, sum, ok := impl.BestOrder(x.m, x.list, course)
			if ok != impl.IsCourse(x.m, x.list, course) {
				t.Errorf("BestOrder(%v, %v, %v): %v", x.m, x.list, course, ok)
			}
			if ok {
				tried++
				tied += checkNoOrderIsBetter(t, x, course, best, sum)
			}
		}
	}
	if tried < 100 || tied < 50 {
		t.Errorf("only %d courses were tried, with %d ties", tried, tied)
	}
}

// checkNoOrderIsBetter returns how many orders but the best one take as little time.
func checkNoOrderIsBetter(t *testing.T, x terrain, course, best []int, sum int) int {
	t.Helper()
	tied, found := 0, false
	for _, order := range reorderings(course) {
		n, ok := impl.CourseTime(x.m, x.list, order)
		if !ok || n < sum || n == sum && slices.Compare(order, best) < 0 {
			t.Errorf("%v takes %d, %v, and the best order %v takes %d on %v with %v", order, n, ok, best, sum, x.m, x.list)
		}
		if slices.Equal(order, best) {
			found = n == sum
		} else if n == sum {
			tied++
		}
		if again, least, ok := impl.BestOrder(x.m, x.list, order); !ok || least != sum || !slices.Equal(again, best) {
			t.Errorf("the best order of %v is %v, %d, %v, and that of %v is %v, %d", order, again, least, ok, course, best, sum)
		}
	}
	if !found {
		t.Errorf("%v is no order of %v, or does not take %d on %v with %v", best, course, sum, x.m, x.list)
	}
	return tied
}

// block has 6 columns and rows, all flat, and Controls at the corners of a block of 4 columns and
// rows, 31 at the top left, 35, 44 and 52 going round it, and 60 beside 35.
func block() terrain {
	return terrainOf(flatMap(6, 6), []impl.Control{{Code: 31, Cell: 0}, {Code: 35, Cell: 3}, {Code: 44, Cell: 21}, {Code: 52, Cell: 18}, {Code: 60, Cell: 2}})
}

func TestCoursesByHand(t *testing.T) {
	x := block()
	for _, c := range []struct {
		course, times, faults, back []int
	}{
		{[]int{31, 35, 44, 52}, []int{3, 3, 3}, nil, nil},
		{[]int{52, 44, 35, 31}, []int{3, 3, 3}, nil, nil},
		{[]int{35, 31, 52, 44}, []int{3, 3, 3}, nil, nil},
		{[]int{31, 35, 44}, []int{3, 3}, []int{1}, nil},
		{[]int{31, 35}, []int{3}, []int{1}, nil},
		{[]int{31, 44}, []int{6}, []int{1}, nil},
		{[]int{31, 60}, []int{2}, []int{1, 3}, nil},
		{[]int{60, 35}, []int{1}, []int{1, 3}, nil},
		{[]int{31, 35, 44, 52, 31}, []int{3, 3, 3, 3}, []int{2}, nil},
		{[]int{31, 35, 44, 52, 31, 35, 44, 52}, []int{3, 3, 3, 3, 3, 3, 3}, []int{2}, nil},
		{[]int{35, 31, 52, 44, 35, 31}, []int{3, 3, 3, 3, 3}, []int{2}, nil},
		// A close leg is the first one, the last one or between.
		{[]int{31, 60, 44, 52}, []int{2, 4, 3}, []int{3}, nil},
		{[]int{52, 44, 35, 60}, []int{3, 3, 1}, []int{3}, nil},
		{[]int{44, 35, 60, 31}, []int{3, 1, 2}, []int{3}, nil},
		{[]int{31, 52, 44, 35, 60, 31}, []int{3, 3, 3, 1, 2}, []int{2, 3}, nil},
		// The way to 35 goes by 60, and back to it.
		{[]int{31, 35, 60}, []int{3, 1}, []int{1, 3, 4}, []int{1}},
		{[]int{44, 31, 35, 60}, []int{6, 3, 1}, []int{3, 4}, []int{1, 2}},
		{[]int{60, 35, 31, 52}, []int{1, 3, 3}, []int{3, 4}, []int{1}},
		// The way to 44 and that to 31 both go by the upper right.
		{[]int{31, 44, 31, 35}, []int{6, 6, 3}, []int{2, 4}, []int{1, 2}},
		{[]int{35, 31, 44, 52}, []int{3, 6, 3}, []int{4}, []int{1}},
		{[]int{52, 44, 31, 35}, []int{3, 6, 3}, []int{4}, []int{2}},
		{[]int{52, 31, 44, 35}, []int{3, 6, 3}, []int{4}, []int{2}},
		{[]int{52, 31, 44, 52}, []int{3, 6, 3}, []int{2}, nil},
		{[]int{31, 35, 31, 35, 31, 35, 31, 35}, []int{3, 3, 3, 3, 3, 3, 3}, []int{2, 4}, []int{1, 2, 3, 4, 5, 6}},
		{[]int{31, 60, 31}, []int{2, 2}, []int{1, 2, 3, 4}, []int{1}},
	} {
		checkCourse(t, x, c.course)
		if got, ok := impl.LegTimes(x.m, x.list, c.course); !ok || !slices.Equal(got, c.times) {
			t.Errorf("LegTimes(%v) = %v, %v", c.course, got, ok)
		}
		if got, ok := impl.CourseFaults(x.m, x.list, c.course); !ok || !slices.Equal(got, c.faults) {
			t.Errorf("CourseFaults(%v) = %v, %v", c.course, got, ok)
		}
		if got, ok := impl.BackLegs(x.m, x.list, c.course); !ok || !slices.Equal(got, c.back) {
			t.Errorf("BackLegs(%v) = %v, %v", c.course, got, ok)
		}
	}
}

// TestLegsBackAfterOneOfSeveralRoutes has a Control in each cell, so that most legs have several
// routes of the same time; the best one alone tells whether the next leg goes back.
func TestLegsBackAfterOneOfSeveralRoutes(t *testing.T) {
	// 31 32 33
	// 34 35 36
	// 37 38 39
	m := flatMap(3, 3)
	list := []impl.Control{}
	for cell := range 9 {
		list = append(list, impl.Control{Code: 31 + cell, Cell: cell})
	}
	x := terrainOf(m, list)
	for _, c := range []struct {
		course []int
		back   bool
	}{
		// To 39 one comes by 32, 33 and 36, and not by 38.
		{[]int{31, 39, 36}, true},
		{[]int{31, 39, 38}, false},
		{[]int{31, 39, 33}, true},
		{[]int{31, 39, 37}, false},
		// And from there one goes by 36 where that is as good as by 38.
		{[]int{31, 39, 31}, true},
		{[]int{31, 39, 32}, true},
		{[]int{31, 39, 34}, true},
		{[]int{31, 39, 35}, true},
		// After 38, the way by 38 would be as good, but it is not the best route.
		{[]int{38, 39, 35}, false},
		{[]int{38, 39, 34}, false},
		{[]int{38, 39, 31}, false},
		{[]int{38, 39, 37}, true},
		{[]int{38, 39, 38}, true},
		{[]int{36, 39, 35}, true},
		{[]int{36, 39, 34}, true},
		{[]int{36, 39, 37}, false},
		// To 37 one comes from 33 by 32, 31 and 34, and goes from there by 34.
		{[]int{33, 37, 38}, false},
		{[]int{33, 37, 39}, false},
		{[]int{33, 37, 36}, true},
		{[]int{33, 37, 35}, true},
		{[]int{33, 37, 33}, true},
		{[]int{35, 37, 33}, true},
		{[]int{35, 37, 38}, false},
		{[]int{38, 37, 35}, false},
		// To 31 one comes from 39 by 36, 33 and 32.
		{[]int{39, 31, 34}, false},
		{[]int{39, 31, 37}, false},
		{[]int{39, 31, 35}, true},
		{[]int{39, 31, 38}, true},
		{[]int{34, 31, 39}, false},
		{[]int{34, 31, 35}, false},
		{[]int{34, 31, 38}, false},
		{[]int{34, 31, 37}, true},
		// In the middle one may go on, aside or back.
		{[]int{32, 35, 38}, false},
		{[]int{32, 35, 34}, false},
		{[]int{32, 35, 32}, true},
		{[]int{32, 35, 31}, true},
		{[]int{34, 35, 31}, false},
		{[]int{34, 35, 37}, true},
		{[]int{36, 35, 37}, false},
		{[]int{38, 35, 39}, false},
		{[]int{36, 35, 39}, true},
	} {
		checkCourse(t, x, c.course)
		want := []int{}
		if c.back {
			want = []int{1}
		}
		if got, ok := impl.BackLegs(m, list, c.course); !ok || !slices.Equal(got, want) {
			t.Errorf("BackLegs(%v) = %v, %v", c.course, got, ok)
		}
	}
	for a := 31; a <= 39; a++ {
		for b := 31; b <= 39; b++ {
			for c := 31; c <= 39; c++ {
				checkCourse(t, x, []int{a, b, c})
				checkCourse(t, x, []int{b, a, 35, c, 31, b})
			}
		}
	}
}

// TestWayBackOnAnotherRoute has two Controls between which one goes up on one side and down on the
// other side, so that no leg goes back.
func TestWayBackOnAnotherRoute(t *testing.T) {
	m := impl.Map{Width: 2, Height: 2, Rise: []int{0, 2, 0, 4}, Cost: []int{1, 2, 1, 1}}
	x := terrainOf(m, []impl.Control{{Code: 31, Cell: 0}, {Code: 32, Cell: 3}})
	course := []int{31, 32, 31, 32}
	checkCourse(t, x, course)
	if got, ok := impl.LegTimes(m, x.list, course); !ok || !slices.Equal(got, []int{10, 3, 10}) {
		t.Error("the legs take", got, ok)
	}
	if n, ok := impl.CourseTime(m, x.list, course); !ok || n != 23 {
		t.Error("the course takes", n, ok)
	}
	if n, ok := impl.CourseClimb(m, x.list, course); !ok || n != 8 {
		t.Error("the course climbs", n, ok)
	}
	if n, ok := impl.CourseClimb(m, x.list, []int{32, 31}); !ok || n != 0 {
		t.Error("the way down climbs", n, ok)
	}
	if got, ok := impl.CourseFaults(m, x.list, course); !ok || !slices.Equal(got, []int{impl.FaultAgain}) {
		t.Error("the faults are", got, ok)
	}
	if got, ok := impl.BackLegs(m, x.list, course); !ok || len(got) != 0 {
		t.Error("the legs back are", got, ok)
	}
}

// TestDirectWayBack goes down round a block in easy steps and back up in one step: the second cell
// of the way back is on the way there, but not its last but one.
func TestDirectWayBack(t *testing.T) {
	m := impl.Map{Width: 2, Height: 2, Rise: []int{9, 0, 6, 3}, Cost: []int{1, 1, 1, 1}}
	x := terrainOf(m, []impl.Control{{Code: 31, Cell: 0}, {Code: 32, Cell: 1}, {Code: 33, Cell: 2}})
	for _, c := range []struct {
		course, times, back []int
	}{
		{[]int{31, 32, 31}, []int{6, 19}, nil},
		{[]int{32, 31, 32}, []int{19, 6}, nil},
		{[]int{31, 32, 33}, []int{6, 14}, []int{1}},
		{[]int{33, 32, 31}, []int{4, 19}, nil},
		{[]int{32, 33, 31, 32, 33}, []int{14, 7, 6, 14}, []int{2, 3}},
	} {
		checkCourse(t, x, c.course)
		if got, ok := impl.LegTimes(m, x.list, c.course); !ok || !slices.Equal(got, c.times) {
			t.Errorf("LegTimes(%v) = %v, %v", c.course, got, ok)
		}
		if got, ok := impl.BackLegs(m, x.list, c.course); !ok || !slices.Equal(got, c.back) {
			t.Errorf("BackLegs(%v) = %v, %v", c.course, got, ok)
		}
	}
}

// TestClimbOfTheBestRoute has two ways with different climbs, some of them of the same time.
func TestClimbOfTheBestRoute(t *testing.T) {
	for _, c := range []struct {
		rise, cost []int
		climb      int
	}{
		{[]int{0, 1, 0, 0}, []int{1, 1, 3, 1}, 1}, // 3+1 by the cell 1 and by the cell 2
		{[]int{0, 0, 1, 0}, []int{1, 3, 1, 1}, 0}, // the same
		{[]int{0, 3, 0, 0}, []int{1, 1, 8, 1}, 3}, // 7+2 and 8+1
		{[]int{0, 0, 3, 0}, []int{1, 8, 1, 1}, 0}, // 8+1 and 7+2
		{[]int{0, 3, 0, 0}, []int{1, 1, 7, 1}, 0}, // 7+2 and 7+1
		{[]int{0, 0, 3, 0}, []int{1, 9, 1, 1}, 3}, // 9+1 and 7+2
		{[]int{0, 9, 2, 1}, []int{1, 1, 9, 1}, 2}, // 19+7 and 13+1
	} {
		m := impl.Map{Width: 2, Height: 2, Rise: c.rise, Cost: c.cost}
		x := terrainOf(m, []impl.Control{{Code: 50, Cell: 0}, {Code: 60, Cell: 3}})
		checkCourse(t, x, []int{50, 60})
		checkCourse(t, x, []int{60, 50})
		if n, ok := impl.CourseClimb(m, x.list, []int{50, 60}); !ok || n != c.climb {
			t.Errorf("%v climbs %d, %v", m, n, ok)
		}
	}
}

// TestLegsAtTheBoundOfAFault has legs of one step of every time.
func TestLegsAtTheBoundOfAFault(t *testing.T) {
	list := []impl.Control{{Code: 41, Cell: 0}, {Code: 46, Cell: 1}}
	for up := -9; up <= 9; up++ {
		for cost := range 9 {
			for width := 1; width <= 2; width++ {
				m := impl.Map{Width: width, Height: 3 - width, Rise: []int{max(0, -up), max(0, up)}, Cost: []int{9, cost + 1}}
				want := []int{impl.FaultShort}
				if stepOf(m, 0, 1) <= 2 {
					want = append(want, impl.FaultClose)
				}
				if got, ok := impl.CourseFaults(m, list, []int{41, 46}); !ok || !slices.Equal(got, want) {
					t.Errorf("CourseFaults on %v: %v, %v", m, got, ok)
				}
				// The way back takes 9 or more.
				if got, ok := impl.CourseFaults(m, list, []int{46, 41}); !ok || !slices.Equal(got, []int{impl.FaultShort}) {
					t.Errorf("CourseFaults on %v, back: %v, %v", m, got, ok)
				}
			}
		}
	}
	for _, c := range []struct {
		rise, cost []int
		close      bool
	}{
		{[]int{0, 0}, []int{9, 1}, true},
		{[]int{0, 0}, []int{9, 2}, true},
		{[]int{0, 0}, []int{9, 3}, false},
		{[]int{0, 1}, []int{9, 1}, false}, // 1 + 2
		{[]int{2, 0}, []int{9, 2}, true},  // a drop of two contours takes no time
		{[]int{3, 0}, []int{9, 1}, true},  // 1 + 1
		{[]int{3, 0}, []int{9, 2}, false}, // 2 + 1
		{[]int{4, 0}, []int{9, 1}, false}, // 1 + 2
	} {
		m := impl.Map{Width: 2, Height: 1, Rise: c.rise, Cost: c.cost}
		if got, ok := impl.CourseFaults(m, list, []int{41, 46}); !ok || slices.Contains(got, impl.FaultClose) != c.close {
			t.Errorf("CourseFaults on %v: %v, %v", m, got, ok)
		}
	}
}

// TestLegsOfSeveralStepsAtTheBoundOfAFault has Controls of all distances on a line.
func TestLegsOfSeveralStepsAtTheBoundOfAFault(t *testing.T) {
	for a := range 6 {
		for b := range 6 {
			if a == b {
				continue
			}
			list := []impl.Control{{Code: 70, Cell: a}, {Code: 80, Cell: b}}
			want := []int{1}
			if a-b < 3 && b-a < 3 {
				want = []int{1, 3}
			}
			if got, ok := impl.CourseFaults(flatMap(6, 1), list, []int{70, 80}); !ok || !slices.Equal(got, want) {
				t.Errorf("from %d to %d: %v, %v", a, b, got, ok)
			}
		}
	}
}

func TestNumbersOfCodesOfCourses(t *testing.T) {
	for seed := range codeSets() {
		m := flatMap(6, 6)
		x := terrainOf(m, controlsOn(m, 10, seed))
		codes := x.codes()
		for length := range 11 {
			for _, course := range [][]int{codes[:length], codes[10-length:]} {
				checkCourse(t, x, course)
				if impl.IsCourse(m, x.list, course) != (length >= 2 && length <= 8) {
					t.Errorf("IsCourse of %d Codes", length)
				}
				faults, ok := impl.CourseFaults(m, x.list, course)
				if ok != (length >= 2 && length <= 8) || slices.Contains(faults, impl.FaultShort) != (length == 2 || length == 3) || slices.Contains(faults, impl.FaultAgain) {
					t.Errorf("CourseFaults of %d Codes: %v, %v", length, faults, ok)
				}
				if order, n, ok := impl.BestOrder(m, x.list, course); ok != (length >= 2 && length <= 7) || len(order) != length && ok || (n > 0) != ok {
					t.Errorf("BestOrder of %d Codes: %v, %d, %v", length, order, n, ok)
				}
			}
		}
		for i := range 8 {
			checkSpoiltCourses(t, x, codes[1:9], i)
		}
	}
	x := block()
	for _, length := range []int{9, 10, 16, 100, 100000} {
		rejectsCourse(t, x.m, x.list, slices.Repeat([]int{31, 35}, length)[:length], []int{31, 35})
	}
}

// checkSpoiltCourses puts all Codes, valid or not, at a place of a course, and other numbers.
func checkSpoiltCourses(t *testing.T, x terrain, course []int, place int) {
	t.Helper()
	tries := []int{-1, 0, 1, 9, 10}
	for code := 29; code <= 101; code++ {
		tries = append(tries, code)
	}
	for _, code := range append(tries, farNumbers...) {
		spoilt := slices.Clone(course)
		spoilt[place] = code
		if impl.IsCourse(x.m, x.list, spoilt) != (slices.Contains(x.codes(), code) && !areRepeated(spoilt)) {
			t.Errorf("IsCourse(%v, %v)", x.list, spoilt)
		}
		if !slices.Contains(x.codes(), code) {
			rejectsCourse(t, x.m, x.list, spoilt, course)
		}
		// In short courses, too.
		if place < 3 {
			checkCourse(t, x, spoilt[:3])
			checkCourse(t, x, spoilt[:2])
		}
	}
}

func areRepeated(course []int) bool {
	return len(slices.Compact(slices.Clone(course))) < len(course)
}

func TestCodesThatFollowThemselves(t *testing.T) {
	x := block()
	for _, course := range [][]int{
		{31, 31}, {31, 31, 35}, {31, 35, 35}, {31, 35, 35, 44}, {31, 31, 31}, {31, 35, 44, 52, 52}, {31, 31, 35, 44, 52, 60},
		{31, 35, 44, 52, 31, 35, 44, 44}, {60, 60, 60, 60, 60, 60, 60, 60},
	} {
		rejectsCourse(t, x.m, x.list, course, []int{31, 35})
	}
	for _, course := range [][]int{{31, 35, 31}, {31, 35, 44, 35}, {31, 35, 31, 35, 31, 35, 31, 35}} {
		checkCourse(t, x, course)
		if !impl.IsCourse(x.m, x.list, course) {
			t.Errorf("%v is no course", course)
		}
		if order, n, ok := impl.BestOrder(x.m, x.list, course); ok || n != 0 || len(order) != 0 {
			t.Errorf("BestOrder(%v) = %v, %d, %v", course, order, n, ok)
		}
	}
}

func TestCoursesOfInvalidControlsAndMaps(t *testing.T) {
	for _, x := range oddTerrains() {
		for _, course := range [][]int{nil, {}, {31}, {31, 32}, {32, 33}, {31, 33, 32}, {31, 32, 33, 34}, {34, 33, 32, 31, 32, 33, 34, 31}, {31, 32, 31}, {31, 31}, {30, 32}, {32, 100}, {0, 0}} {
			rejectsCourse(t, x.m, x.list, course, []int{31, 32})
		}
	}
	eleven := oddTerrains()[1]
	ten := terrainOf(eleven.m, eleven.list[:10])
	checkCourse(t, ten, []int{31, 32, 33, 34})
	if !impl.IsCourse(ten.m, ten.list, []int{31, 40, 31, 40}) {
		t.Error("ten Controls have no course")
	}
	for _, x := range terrains() {
		for _, course := range [][]int{nil, {}, {30, 100}, {31}} {
			rejectsCourse(t, x.m, x.list, course, x.someCourse())
		}
		for _, code := range x.codes() {
			rejectsCourse(t, x.m, x.list, []int{code}, x.someCourse())
			rejectsCourse(t, x.m, x.list, []int{code, code}, x.someCourse())
		}
	}
}

// TestCoursesBetweenParts has three Controls on each side of forbidden cells.
func TestCoursesBetweenParts(t *testing.T) {
	// 31 # 36
	// 33 # 32
	// 35 # 34
	m := flatMap(3, 3)
	m.Cost[1], m.Cost[4], m.Cost[7] = 0, 0, 0
	x := terrainOf(m, []impl.Control{{Code: 31, Cell: 0}, {Code: 32, Cell: 5}, {Code: 33, Cell: 3}, {Code: 34, Cell: 8}, {Code: 35, Cell: 6}, {Code: 36, Cell: 2}})
	for a := 31; a <= 36; a++ {
		for b := 31; b <= 36; b++ {
			if is := impl.IsCourse(m, x.list, []int{a, b}); is != (a%2 == b%2 && a != b) {
				t.Errorf("IsCourse of %d and %d: %v", a, b, is)
			}
			for c := 31; c <= 36; c++ {
				for d := 31; d <= 36; d++ {
					checkCourse(t, x, []int{a, b, c, d})
					if a%2 != b%2 || b%2 != c%2 || c%2 != d%2 {
						rejectsCourse(t, m, x.list, []int{a, b, c, d}, []int{32, 34})
						rejectsCourse(t, m, x.list, []int{31, 33, a, b, c, d}, []int{31, 33})
					}
				}
			}
		}
	}
	// Two courses of different parts are both valid, but share nothing.
	if got, ok := impl.SharedLegs(m, x.list, []int{31, 33, 35}, []int{36, 32, 34}); !ok || len(got) != 0 {
		t.Error("shared are", got, ok)
	}
	if order, n, ok := impl.BestOrder(m, x.list, []int{35, 31, 33}); !ok || n != 3 || !slices.Equal(order, []int{35, 31, 33}) {
		t.Error("the order is", order, n, ok)
	}
	// Cells that touch at a corner only.
	corner := flatMap(2, 2)
	corner.Cost[1], corner.Cost[2] = 0, 0
	diagonal := []impl.Control{{Code: 31, Cell: 0}, {Code: 32, Cell: 3}}
	rejectsCourse(t, corner, diagonal, []int{31, 32}, nil)
	corner.Cost[1] = 5
	if n, ok := impl.CourseTime(corner, diagonal, []int{31, 32}); !ok || n != 6 {
		t.Error("the course takes", n, ok)
	}
	// A Control to which there is no route, in the course or not.
	alone := impl.Map{Width: 4, Height: 1, Rise: []int{0, 9, 0, 0}, Cost: []int{1, 4, 0, 1}}
	list := []impl.Control{{Code: 31, Cell: 3}, {Code: 32, Cell: 0}, {Code: 33, Cell: 1}}
	checkCourse(t, terrainOf(alone, list), []int{32, 33, 32})
	if n, ok := impl.CourseTime(alone, list, []int{32, 33, 32}); !ok || n != 4+18+1+7 {
		t.Error("the course takes", n, ok)
	}
	rejectsCourse(t, alone, list, []int{32, 33, 31}, []int{32, 33})
	rejectsCourse(t, alone, list, []int{31, 33, 32}, []int{32, 33})
	rejectsCourse(t, alone, list, []int{32, 31, 33}, []int{32, 33})
}

// TestTiedOrdersOnALine starts and ends in the middle of a line with two Controls on each side: of
// the orders that go to the left side first, all four take the least time.
func TestTiedOrdersOnALine(t *testing.T) {
	m := flatMap(6, 1)
	for _, codes := range ordersOf([]int{36, 47, 58, 69}) {
		for _, ends := range [][2]int{{31, 99}, {99, 31}, {50, 51}} {
			list := []impl.Control{{Code: ends[0], Cell: 2}, {Code: ends[1], Cell: 3}}
			for i, cell := range []int{0, 1, 4, 5} {
				list = append(list, impl.Control{Code: codes[i], Cell: cell})
			}
			slices.SortFunc(list, func(a, b impl.Control) int { return a.Code - b.Code })
			want := []int{ends[0], min(codes[0], codes[1]), max(codes[0], codes[1]), min(codes[2], codes[3]), max(codes[2], codes[3]), ends[1]}
			for _, course := range reorderings(want) {
				if order, n, ok := impl.BestOrder(m, list, course); !ok || n != 9 || !slices.Equal(order, want) {
					t.Errorf("BestOrder(%v, %v) = %v, %d, %v", list, course, order, n, ok)
				}
			}
		}
	}
}

// TestOrdersThatAllTie has cells that are all two steps from each other, and one step from the
// finish.
func TestOrdersThatAllTie(t *testing.T) {
	for _, codes := range ordersOf([]int{31, 50, 77, 99}) {
		list := []impl.Control{{Code: 66, Cell: 4}}
		for i, cell := range []int{1, 3, 5, 7} {
			list = append(list, impl.Control{Code: codes[i], Cell: cell})
		}
		slices.SortFunc(list, func(a, b impl.Control) int { return a.Code - b.Code })
		x := terrainOf(flatMap(3, 3), list)
		rest := slices.Sorted(slices.Values(codes[1:]))
		want := []int{codes[0], rest[0], rest[1], rest[2], 66}
		for _, course := range reorderings(want) {
			if order, n, ok := impl.BestOrder(x.m, list, course); !ok || n != 7 || !slices.Equal(order, want) {
				t.Errorf("BestOrder(%v, %v) = %v, %d, %v", list, course, order, n, ok)
			}
			back := slices.Clone(course)
			slices.Reverse(back)
			wantBack := []int{66, rest[0], rest[1], rest[2], codes[0]}
			if order, n, ok := impl.BestOrder(x.m, list, back); !ok || n != 7 || !slices.Equal(order, wantBack) {
				t.Errorf("BestOrder(%v, %v) = %v, %d, %v", list, back, order, n, ok)
			}
		}
		if tied := checkNoOrderIsBetter(t, x, want, want, 7); tied != 5 {
			t.Errorf("%d other orders take as little time", tied)
		}
	}
}

func TestBestOrderByHand(t *testing.T) {
	// Down from the left to the right, which is quick, and up again, which is not.
	slope := impl.Map{Width: 6, Height: 1, Rise: []int{9, 7, 5, 3, 2, 0}, Cost: []int{1, 1, 1, 1, 1, 1}}
	line := []impl.Control{{Code: 31, Cell: 5}, {Code: 34, Cell: 3}, {Code: 38, Cell: 0}, {Code: 42, Cell: 2}, {Code: 59, Cell: 4}, {Code: 98, Cell: 1}}
	flat := flatMap(6, 6)
	corners := []impl.Control{{Code: 32, Cell: 35}, {Code: 41, Cell: 0}, {Code: 53, Cell: 5}, {Code: 64, Cell: 30}, {Code: 75, Cell: 14}, {Code: 86, Cell: 21}, {Code: 97, Cell: 1}}
	for _, c := range []struct {
		m            impl.Map
		list         []impl.Control
		course, want []int
		sum          int
	}{
		{slope, line, []int{38, 31}, []int{38, 31}, 5},
		{slope, line, []int{31, 38}, []int{31, 38}, 5 + 18},
		{slope, line, []int{38, 34, 31}, []int{38, 34, 31}, 5},
		{slope, line, []int{38, 59, 34, 42, 98, 31}, []int{38, 98, 42, 34, 59, 31}, 5},
		{slope, line, []int{31, 98, 42, 34, 59, 38}, []int{31, 59, 34, 42, 98, 38}, 5 + 18},
		// The start is not at an end: up to the top first, which is the same sum as up from the foot.
		{slope, line, []int{34, 38, 59, 31}, []int{34, 38, 59, 31}, 3 + 12 + 4 + 1},
		{slope, line, []int{34, 59, 38, 31}, []int{34, 38, 59, 31}, 3 + 12 + 4 + 1},
		{slope, line, []int{34, 31, 38, 59}, []int{34, 38, 31, 59}, 3 + 12 + 5 + 1 + 4},
		// Round the corners, from one to the next one, or across.
		{flat, corners, []int{41, 32, 53, 64}, []int{41, 53, 32, 64}, 15},
		{flat, corners, []int{41, 53, 64, 32}, []int{41, 53, 64, 32}, 20},
		{flat, corners, []int{41, 64, 53, 32}, []int{41, 53, 64, 32}, 20},
		{flat, corners, []int{32, 64, 53, 41}, []int{32, 53, 64, 41}, 20},
		// Seven Codes: the two in the middle come between the corners 53 and 64, in either order.
		{flat, corners, []int{41, 64, 53, 86, 75, 97, 32}, []int{41, 97, 53, 75, 86, 64, 32}, 22},
		{flat, corners, []int{41, 97, 53, 75, 86, 64, 32}, []int{41, 97, 53, 75, 86, 64, 32}, 22},
	} {
		checkCourse(t, terrainOf(c.m, c.list), c.course)
		order, n, ok := impl.BestOrder(c.m, c.list, c.course)
		if !ok || n != c.sum || !slices.Equal(order, c.want) {
			t.Errorf("BestOrder(%v) = %v, %d, %v instead of %v, %d", c.course, order, n, ok, c.want, c.sum)
		}
	}
}

// sharedOf compares each leg of one course with each leg of the other one.
func sharedOf(a, b []int) [][2]int {
	shared := [][2]int{}
	for i := 1; i < len(a); i++ {
		for j := 1; j < len(b); j++ {
			if slices.Equal(a[i-1:i+1], b[j-1:j+1]) {
				shared = append(shared, [2]int{i - 1, j - 1})
			}
		}
	}
	return shared
}

// checkShared compares SharedLegs of two lists, courses or not, with sharedOf.
func checkShared(t *testing.T, x terrain, a, b []int) {
	t.Helper()
	_, one := x.legsOf(a)
	_, other := x.legsOf(b)
	want := [][2]int{}
	if one && other {
		want = sharedOf(a, b)
	}
	if got, ok := impl.SharedLegs(x.m, x.list, a, b); ok != (one && other) || !slices.Equal(got, want) {
		t.Errorf("SharedLegs(%v, %v, %v, %v) = %v, %v instead of %v", x.m, x.list, a, b, got, ok, want)
	}
}

func TestSharedLegs(t *testing.T) {
	for i, x := range terrains() {
		codes := x.codes()
		for try := range 6 {
			if len(codes) == 0 {
				checkShared(t, x, []int{31, 32}, []int{32, 31})
				continue
			}
			few := codes[:min(len(codes), 2+try%3)]
			a := sampleCourse(few, 1+(i+try*3)%9, i, true)
			b := sampleCourse(few, 1+(i+try*5)%9, i+1, false)
			checkShared(t, x, a, b)
			checkShared(t, x, b, a)
			checkShared(t, x, a, a)
			checkShared(t, x, b, b)
		}
	}
	x := block()
	lists := [][]int{}
	for _, a := range []int{31, 35, 44, 30} {
		for _, b := range []int{31, 35, 44} {
			for _, c := range []int{31, 35, 44} {
				lists = append(lists, []int{a, b}, []int{a, b, c}, []int{c, b, a, c})
			}
		}
	}
	for _, a := range lists {
		for _, b := range lists {
			checkShared(t, x, a, b)
		}
	}
}

func TestSharedLegsByHand(t *testing.T) {
	x := block()
	for _, c := range []struct {
		a, b []int
		want [][2]int
	}{
		{[]int{31, 35, 44, 52}, []int{60, 35, 44, 31}, [][2]int{{1, 1}}},
		{[]int{31, 35, 44, 52}, []int{44, 52, 31, 35}, [][2]int{{0, 2}, {2, 0}}},
		{[]int{31, 35}, []int{31, 35}, [][2]int{{0, 0}}},
		// The other way round, and the same Controls with another one between.
		{[]int{31, 35}, []int{35, 31}, nil},
		{[]int{31, 35, 44, 52}, []int{52, 44, 35, 31}, nil},
		{[]int{31, 35}, []int{31, 60, 35}, nil},
		{[]int{31, 35}, []int{31, 44, 60, 35}, nil},
		{[]int{31, 35}, []int{44, 52}, nil},
		// Legs of a course that are the same.
		{[]int{31, 35, 31, 35}, []int{31, 35, 31}, [][2]int{{0, 0}, {1, 1}, {2, 0}}},
		{[]int{31, 35, 31}, []int{31, 35, 31, 35}, [][2]int{{0, 0}, {0, 2}, {1, 1}}},
		{[]int{31, 35, 44, 31, 35}, []int{44, 31, 35}, [][2]int{{0, 1}, {2, 0}, {3, 1}}},
	} {
		if got, ok := impl.SharedLegs(x.m, x.list, c.a, c.b); !ok || !slices.Equal(got, c.want) {
			t.Errorf("SharedLegs(%v, %v) = %v, %v", c.a, c.b, got, ok)
		}
	}
	there := []int{31, 35, 31, 35, 31, 35, 31, 35}
	if got, ok := impl.SharedLegs(x.m, x.list, there, there); !ok || len(got) != 4*4+3*3 || got[0] != [2]int{0, 0} || got[24] != [2]int{6, 6} {
		t.Error("the same legs", got, ok)
	}
}

// TestLongestCourse has eight Codes at the two ends of a way of 21 cells, to and fro between
// forbidden ones, with a step up or down by all contours each time.
func TestLongestCourse(t *testing.T) {
	m := flatMap(6, 6)
	for cell := range m.Cost {
		m.Cost[cell] = 0
		m.Rise[cell] = (cell/6 + cell%6) % 2 * 9
	}
	for _, cell := range []int{0, 1, 2, 3, 4, 5, 11, 17, 16, 15, 14, 13, 12, 18, 24, 25, 26, 27, 28, 29, 35} {
		m.Cost[cell] = 9
	}
	x := terrainOf(m, []impl.Control{{Code: 31, Cell: 35}, {Code: 99, Cell: 0}})
	course := []int{31, 99, 31, 99, 31, 99, 31, 99}
	checkCourse(t, x, course)
	if n, ok := impl.CourseTime(m, x.list, course); !ok || n != 7*(10*27+10*16) {
		t.Error("the course takes", n, ok)
	}
	if n, ok := impl.CourseClimb(m, x.list, course); !ok || n != 7*90 {
		t.Error("the course climbs", n, ok)
	}
	rejectsCourse(t, m, x.list, append(course, 31), course)
	rejectsCourse(t, m, x.list, []int{math.MinInt, math.MaxInt}, course)
}
