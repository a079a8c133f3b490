package tests

import (
	"math"
	"slices"
	"testing"

	"loop.example/g00938/impl"
)

// flatMap has the height 0 and the cost 1 everywhere, so that very many routes tie.
func flatMap(width, height int) impl.Map {
	cells := width * height
	return impl.Map{Width: width, Height: height, Rise: make([]int, cells), Cost: slices.Repeat([]int{1}, cells)}
}

// tiedMaps are maps of all sizes with so few costs, and but for the last ones so few heights, that
// many routes tie, also those with different numbers of cells.
func tiedMaps() []impl.Map {
	maps := []impl.Map{}
	for width := 1; width <= 6; width++ {
		for height := 1; height <= 6; height++ {
			maps = append(maps, flatMap(width, height))
			for seed, gaps := range []int{0, 3, 6, 9, 0, 7} {
				m := variedMap(width, height, gaps, seed+50)
				for cell := range m.Cost {
					if m.Cost[cell] > 0 {
						m.Cost[cell] = []int{1, 1 + min(seed, 2)}[m.Cost[cell]%2]
					}
					if seed < 4 {
						m.Rise[cell] = m.Rise[cell] % 2 * []int{0, 1, 3, 4}[seed]
					}
				}
				maps = append(maps, m)
			}
		}
	}
	return maps
}

func routeMaps() []impl.Map {
	return append(variedMaps(), tiedMaps()...)
}

func climbOf(m impl.Map, a, b int) int {
	if m.Rise[b] > m.Rise[a] {
		return m.Rise[b] - m.Rise[a]
	}
	return 0
}

// isRouteOn follows the document's rule by looking at each cell and each pair of cells.
func isRouteOn(m impl.Map, route []int) bool {
	for i, cell := range route {
		if cell < 0 || cell >= m.Width*m.Height || m.Cost[cell] == 0 || slices.Contains(route[:i], cell) {
			return false
		}
		if i > 0 && !areNext(m, route[i-1], cell) {
			return false
		}
	}
	return len(route) != 0
}

// openPairs are all pairs of cells next to each other that are not forbidden.
func openPairs(m impl.Map) [][2]int {
	pairs := [][2]int{}
	for a := range m.Cost {
		for b := range m.Cost {
			if areNext(m, a, b) && m.Cost[a] != 0 && m.Cost[b] != 0 {
				pairs = append(pairs, [2]int{a, b})
			}
		}
	}
	return pairs
}

// timedRoute is a route with its time; without a route it is empty.
type timedRoute struct {
	time  int
	cells []int
}

// before tells whether a route is better: of less time, or of the same and the smaller list.
func (r timedRoute) before(other timedRoute) bool {
	if len(other.cells) == 0 || r.time != other.time {
		return len(other.cells) == 0 || r.time < other.time
	}
	return slices.Compare(r.cells, other.cells) < 0
}

// bestRoutesTo improves the routes from all cells to a cell by one step in front of a route, as
// long as one becomes better.
func bestRoutesTo(m impl.Map, b int) []timedRoute {
	best := make([]timedRoute, len(m.Cost))
	if m.Cost[b] == 0 {
		return best
	}
	best[b] = timedRoute{0, []int{b}}
	pairs := openPairs(m)
	for changed := true; changed; {
		changed = false
		for _, p := range pairs {
			if len(best[p[1]].cells) == 0 {
				continue
			}
			longer := timedRoute{best[p[1]].time + stepOf(m, p[0], p[1]), append([]int{p[0]}, best[p[1]].cells...)}
			if longer.before(best[p[0]]) {
				best[p[0]], changed = longer, true
			}
		}
	}
	return best
}

// leastTimesOn has for each two cells the least time, and -1 without a route.
func leastTimesOn(m impl.Map) [][]int {
	n := len(m.Cost)
	least := make([][]int, n)
	for a := range n {
		least[a] = slices.Repeat([]int{-1}, n)
		if m.Cost[a] != 0 {
			least[a][a] = 0
		}
	}
	for _, p := range openPairs(m) {
		least[p[0]][p[1]] = stepOf(m, p[0], p[1])
	}
	for via := range n {
		for a := range n {
			for b := range n {
				if least[a][via] < 0 || least[via][b] < 0 {
					continue
				}
				if sum := least[a][via] + least[via][b]; least[a][b] < 0 || sum < least[a][b] {
					least[a][b] = sum
				}
			}
		}
	}
	return least
}

// eachRouteFrom calls use with every route from the last cell of a route on, in lexicographic
// order for each of them.
func eachRouteFrom(m impl.Map, route []int, time int, use func(route []int, time int)) {
	use(route, time)
	last := route[len(route)-1]
	for next := range m.Cost {
		if areNext(m, last, next) && m.Cost[next] != 0 && !slices.Contains(route, next) {
			eachRouteFrom(m, append(slices.Clone(route), next), time+stepOf(m, last, next), use)
		}
	}
}

// eachList calls use with all lists of at most a length of the numbers -1..cells.
func eachList(list []int, length, cells int, use func(list []int)) {
	use(list)
	if len(list) == length {
		return
	}
	for n := -1; n <= cells; n++ {
		eachList(append(slices.Clone(list), n), length, cells, use)
	}
}

// checkList compares the three functions of a list with the rules.
func checkList(t *testing.T, m impl.Map, list []int) {
	t.Helper()
	want := isRouteOn(m, list)
	minutes, climb := 0, 0
	for i := 1; want && i < len(list); i++ {
		minutes += stepOf(m, list[i-1], list[i])
		climb += climbOf(m, list[i-1], list[i])
	}
	if is, ok := impl.IsRoute(m, list); is != want || !ok {
		t.Errorf("IsRoute(%v, %v) = %v, %v", m, list, is, ok)
	}
	if n, ok := impl.RouteTime(m, list); ok != want || n != minutes {
		t.Errorf("RouteTime(%v, %v) = %d, %v instead of %d", m, list, n, ok, minutes)
	}
	if n, ok := impl.RouteClimb(m, list); ok != want || n != climb {
		t.Errorf("RouteClimb(%v, %v) = %d, %v instead of %d", m, list, n, ok, climb)
	}
}

func TestAllShortListsAsRoutes(t *testing.T) {
	for _, m := range routeMaps() {
		cells := m.Width * m.Height
		switch {
		case cells <= 4:
			eachList(nil, 4, cells, func(list []int) { checkList(t, m, list) })
		case cells <= 9:
			eachList(nil, 3, cells, func(list []int) { checkList(t, m, list) })
		default:
			eachList(nil, 2, cells, func(list []int) { checkList(t, m, list) })
		}
	}
	alone := impl.Map{Width: 1, Height: 1, Rise: []int{4}, Cost: []int{2}}
	eachList(nil, 6, 1, func(list []int) { checkList(t, alone, list) })
	ring := impl.Map{Width: 3, Height: 3, Rise: []int{0, 3, 9, 1, 0, 2, 5, 5, 4}, Cost: []int{1, 2, 3, 4, 0, 5, 6, 7, 8}}
	eachList(nil, 5, 9, func(list []int) { checkList(t, ring, list) })
}

func TestEveryRouteOfSmallMaps(t *testing.T) {
	for _, m := range routeMaps() {
		if len(m.Cost) > 12 {
			continue
		}
		for a := range m.Cost {
			if m.Cost[a] == 0 {
				continue
			}
			eachRouteFrom(m, []int{a}, 0, func(route []int, time int) {
				if is, ok := impl.IsRoute(m, route); !is || !ok {
					t.Errorf("IsRoute(%v, %v) = %v, %v", m, route, is, ok)
				}
				if n, ok := impl.RouteTime(m, route); n != time || !ok {
					t.Errorf("RouteTime(%v, %v) = %d, %v instead of %d", m, route, n, ok, time)
				}
			})
		}
	}
}

// snakeOf goes through all cells, row by row, to and fro.
func snakeOf(m impl.Map) []int {
	route := []int{}
	for cell := range m.Width * m.Height {
		x, y := cell%m.Width, cell/m.Width
		if y%2 == 1 {
			x = m.Width - 1 - x
		}
		route = append(route, y*m.Width+x)
	}
	return route
}

func TestRoutesByHand(t *testing.T) {
	// The cells 2 and 7 are forbidden.
	m := impl.Map{Width: 4, Height: 2, Rise: []int{5, 7, 9, 0, 5, 3, 0, 9}, Cost: []int{1, 2, 0, 4, 5, 6, 7, 0}}
	for _, c := range []struct {
		route       []int
		is          bool
		time, climb int
	}{
		{[]int{0}, true, 0, 0},
		{[]int{3}, true, 0, 0},
		{[]int{6}, true, 0, 0},
		{[]int{0, 1}, true, 2 + 4, 2},
		{[]int{1, 0}, true, 1, 0},         // down by two contours
		{[]int{1, 5}, true, 6 + 2, 0},     // down by four
		{[]int{5, 6}, true, 7 + 1, 0},     // down by three
		{[]int{4, 5}, true, 6, 0},         // down by two
		{[]int{0, 4}, true, 5, 0},         // neither up nor down
		{[]int{6, 5}, true, 6 + 6, 3},     // up by three
		{[]int{5, 1}, true, 2 + 8, 4},     // up by four
		{[]int{5, 4, 0}, true, 9 + 1, 2},  // up by two, and level
		{[]int{0, 1, 5}, true, 6 + 8, 2},  // up, and down
		{[]int{0, 4, 5}, true, 5 + 6, 0},  // level, and down
		{[]int{5, 1, 0}, true, 10 + 1, 4}, // up, and down
		{[]int{6, 5, 4, 0, 1}, true, 12 + 9 + 1 + 6, 3 + 2 + 2},
		{[]int{1, 0, 4, 5, 6}, true, 1 + 5 + 6 + 8, 0},
		{nil, false, 0, 0},
		{[]int{}, false, 0, 0},
		{[]int{2}, false, 0, 0},
		{[]int{1, 2}, false, 0, 0},
		{[]int{2, 1}, false, 0, 0},
		{[]int{2, 3}, false, 0, 0},
		{[]int{0, 0}, false, 0, 0},
		{[]int{0, 1, 0}, false, 0, 0},
		{[]int{0, 1, 5, 4, 0}, false, 0, 0},
		{[]int{0, 5}, false, 0, 0},
		{[]int{0, 6}, false, 0, 0},
		{[]int{3, 4}, false, 0, 0}, // the end of a row and the beginning of the next one
		{[]int{0, 1, 4}, false, 0, 0},
		{[]int{-1}, false, 0, 0},
		{[]int{8}, false, 0, 0},
		{[]int{0, -1}, false, 0, 0},
		{[]int{0, -4}, false, 0, 0},
		{[]int{4, 8}, false, 0, 0},
		{[]int{-1, 0}, false, 0, 0},
		{[]int{8, 4}, false, 0, 0},
		{[]int{math.MaxInt}, false, 0, 0},
		{[]int{math.MinInt}, false, 0, 0},
		{[]int{0, math.MinInt}, false, 0, 0},
		{[]int{0, 1 << 32}, false, 0, 0},
	} {
		if is, ok := impl.IsRoute(m, c.route); is != c.is || !ok {
			t.Errorf("IsRoute(%v) = %v, %v", c.route, is, ok)
		}
		if n, ok := impl.RouteTime(m, c.route); n != c.time || ok != c.is {
			t.Errorf("RouteTime(%v) = %d, %v instead of %d", c.route, n, ok, c.time)
		}
		if n, ok := impl.RouteClimb(m, c.route); n != c.climb || ok != c.is {
			t.Errorf("RouteClimb(%v) = %d, %v instead of %d", c.route, n, ok, c.climb)
		}
	}
}

func TestLongRoutes(t *testing.T) {
	m := flatMap(6, 6)
	for cell := range m.Cost {
		m.Cost[cell] = 9
		m.Rise[cell] = (cell/6 + cell%6) % 2 * 9
	}
	snake := snakeOf(m)
	checkList(t, m, snake)
	// Of the 35 steps, 18 go up 9 contours and 17 go down as many.
	if n, ok := impl.RouteTime(m, snake); n != 18*27+17*16 || !ok {
		t.Error("the time of the longest route is", n, ok)
	}
	if n, ok := impl.RouteClimb(m, snake); n != 18*9 || !ok {
		t.Error("the climb of the longest route is", n, ok)
	}
	slices.Reverse(snake)
	checkList(t, m, snake)
	for length := range len(snake) {
		checkList(t, m, snake[:length])
		checkList(t, m, snake[length:])
		checkList(t, m, append(slices.Clone(snake), snake[length]))
	}
	checkList(t, m, append(slices.Clone(snake), 36))
	for _, long := range [][]int{slices.Repeat([]int{0, 1}, 50000), slices.Repeat([]int{0, 1, 7, 6}, 9), slices.Repeat(snake, 2), make([]int, 100000)} {
		checkList(t, m, long)
	}
}

// checkRoute compares LeastTime and BestRoute with a best route, or with none.
func checkRoute(t *testing.T, m impl.Map, a, b int, want timedRoute) {
	t.Helper()
	found := len(want.cells) > 0
	if n, ok := impl.LeastTime(m, a, b); ok != found || n != want.time {
		t.Errorf("LeastTime(%v, %d, %d) = %d, %v instead of %v", m, a, b, n, ok, want)
	}
	if route, ok := impl.BestRoute(m, a, b); ok != found || !slices.Equal(route, want.cells) {
		t.Errorf("BestRoute(%v, %d, %d) = %v, %v instead of %v", m, a, b, route, ok, want)
	}
}

func TestBestRoutesOfAllMaps(t *testing.T) {
	for _, m := range routeMaps() {
		for b := range m.Cost {
			for a, want := range bestRoutesTo(m, b) {
				checkRoute(t, m, a, b, want)
			}
		}
	}
}

func TestBestRoutesOfSmallMapsAmongAllRoutes(t *testing.T) {
	for _, m := range routeMaps() {
		if len(m.Cost) > 12 {
			continue
		}
		for a := range m.Cost {
			best := make([]timedRoute, len(m.Cost))
			crossed := make([][]bool, len(m.Cost))
			if m.Cost[a] != 0 {
				eachRouteFrom(m, []int{a}, 0, func(route []int, time int) {
					last := route[len(route)-1]
					if found := (timedRoute{time, route}); found.before(best[last]) {
						best[last] = found
					}
				})
				eachRouteFrom(m, []int{a}, 0, func(route []int, time int) {
					last := route[len(route)-1]
					if crossed[last] == nil {
						crossed[last] = make([]bool, len(m.Cost))
					}
					for _, cell := range route {
						crossed[last][cell] = crossed[last][cell] || time == best[last].time
					}
				})
			}
			for b := range m.Cost {
				checkRoute(t, m, a, b, best[b])
				for cell := range m.Cost {
					valid := len(best[b].cells) > 0 && m.Cost[cell] != 0
					want := valid && crossed[b][cell]
					if is, ok := impl.CrossedBy(m, a, b, cell); ok != valid || is != want {
						t.Errorf("CrossedBy(%v, %d, %d, %d) = %v, %v", m, a, b, cell, is, ok)
					}
				}
			}
		}
	}
}

func TestTiesByHand(t *testing.T) {
	// A way round three sides of a block takes as long as the way along the fourth.
	round := impl.Map{Width: 3, Height: 2, Rise: make([]int, 6), Cost: []int{1, 1, 1, 1, 3, 1}}
	upside := impl.Map{Width: 3, Height: 2, Rise: make([]int, 6), Cost: []int{1, 3, 1, 1, 1, 1}}
	// The same with a hill of one contour on the fourth side.
	hill := impl.Map{Width: 3, Height: 2, Rise: []int{0, 0, 0, 0, 1, 0}, Cost: []int{1, 1, 1, 1, 1, 1}}
	knoll := impl.Map{Width: 3, Height: 2, Rise: []int{0, 1, 0, 0, 0, 0}, Cost: []int{1, 1, 1, 1, 1, 1}}
	for _, c := range []struct {
		m     impl.Map
		route []int
		time  int
	}{
		{flatMap(1, 1), []int{0}, 0},
		{flatMap(2, 2), []int{0, 1, 3}, 2},
		{flatMap(2, 2), []int{3, 1, 0}, 2},
		{flatMap(2, 2), []int{1, 0, 2}, 2},
		{flatMap(2, 2), []int{2, 0, 1}, 2},
		{flatMap(3, 3), []int{0, 1, 2, 5, 8}, 4},
		{flatMap(3, 3), []int{8, 5, 2, 1, 0}, 4},
		{flatMap(3, 3), []int{6, 3, 0, 1, 2}, 4},
		{flatMap(3, 3), []int{2, 1, 0, 3, 6}, 4},
		{flatMap(3, 3), []int{4}, 0},
		{flatMap(6, 1), []int{5, 4, 3, 2, 1, 0}, 5},
		{flatMap(1, 6), []int{0, 1, 2, 3, 4, 5}, 5},
		{flatMap(6, 6), []int{0, 1, 2, 3, 4, 5, 11, 17, 23, 29, 35}, 10},
		{flatMap(6, 6), []int{35, 29, 23, 17, 11, 5, 4, 3, 2, 1, 0}, 10},
		{flatMap(6, 6), []int{30, 24, 18, 12, 6, 0, 1, 2, 3, 4, 5}, 10},
		{flatMap(6, 6), []int{5, 4, 3, 2, 1, 0, 6, 12, 18, 24, 30}, 10},
		{flatMap(6, 6), []int{7, 8, 9, 10, 16, 22, 28}, 6},
		{round, []int{3, 0, 1, 2, 5}, 4}, // not 3, 4, 5
		{round, []int{5, 2, 1, 0, 3}, 4}, // not 5, 4, 3
		{upside, []int{0, 1, 2}, 4},      // not 0, 3, 4, 5, 2
		{upside, []int{2, 1, 0}, 4},
		{hill, []int{3, 0, 1, 2, 5}, 4},
		{hill, []int{5, 2, 1, 0, 3}, 4},
		{knoll, []int{0, 1, 2}, 4},
		{knoll, []int{2, 1, 0}, 4},
	} {
		checkRoute(t, c.m, c.route[0], c.route[len(c.route)-1], timedRoute{c.time, c.route})
	}
}

// TestTimesThereAndBack has a way with two steps of two contours and one with a step of four,
// which is the better one up, but not down.
func TestTimesThereAndBack(t *testing.T) {
	m := impl.Map{Width: 2, Height: 2, Rise: []int{0, 2, 0, 4}, Cost: []int{1, 2, 1, 1}}
	checkRoute(t, m, 0, 3, timedRoute{1 + 1 + 8, []int{0, 2, 3}})
	checkRoute(t, m, 3, 0, timedRoute{2 + 1, []int{3, 1, 0}})
	checkRoute(t, m, 0, 1, timedRoute{2 + 4, []int{0, 1}})
	checkRoute(t, m, 1, 0, timedRoute{1, []int{1, 0}})
	// A step from 1 to 2 would take just the difference of the times from there to 3, but they are
	// not next to each other.
	m = impl.Map{Width: 2, Height: 2, Rise: []int{9, 7, 5, 0}, Cost: []int{1, 1, 2, 1}}
	checkRoute(t, m, 0, 3, timedRoute{1 + 6, []int{0, 1, 3}})
	checkRoute(t, m, 0, 2, timedRoute{2 + 2, []int{0, 2}})
	checkRoute(t, m, 1, 2, timedRoute{5 + 4, []int{1, 0, 2}})
}

// TestLongWay has a single way of 21 cells, to and fro between forbidden ones, with a step up or
// down by all contours each time.
func TestLongWay(t *testing.T) {
	m := flatMap(6, 6)
	way := []int{0, 1, 2, 3, 4, 5, 11, 17, 16, 15, 14, 13, 12, 18, 24, 25, 26, 27, 28, 29, 35}
	for cell := range m.Cost {
		m.Cost[cell] = 0
		m.Rise[cell] = (cell/6 + cell%6) % 2 * 9
	}
	for _, cell := range way {
		m.Cost[cell] = 9
	}
	time := 10*(9+18) + 10*(9+7)
	checkRoute(t, m, 0, 35, timedRoute{time, way})
	if n, ok := impl.RouteClimb(m, way); !ok || n != 90 {
		t.Error("the climb is", n, ok)
	}
	if cell, n, ok := impl.FarthestCell(m, 0); !ok || cell != 35 || n != time {
		t.Error("the farthest cell is", cell, n, ok)
	}
	if n, ok := impl.DetourTime(m, 0, 35, 0); !ok || n != 2*time {
		t.Error("the detour takes", n, ok)
	}
	if got, ok := impl.CellsWithin(m, 0, time); !ok || len(got) != len(way) {
		t.Error("within the time are", got, ok)
	}
	if got, ok := impl.CellsWithin(m, 0, time-1); !ok || len(got) != len(way)-1 || slices.Contains(got, 35) {
		t.Error("within less time are", got, ok)
	}
}

// TestPartsOfBestRoutes has the promise that a part of a best route has the least time, too; with
// the same ties, the part is the best route itself.
func TestPartsOfBestRoutes(t *testing.T) {
	for _, m := range routeMaps() {
		for a := range m.Cost {
			for b := range m.Cost {
				route, ok := impl.BestRoute(m, a, b)
				if !ok || len(m.Cost) > 20 && (a*b)%5 != 1 && (a+b)%7 != 0 {
					continue
				}
				checkParts(t, m, route)
			}
		}
	}
}

func checkParts(t *testing.T, m impl.Map, route []int) {
	t.Helper()
	for from := range route {
		for to := from + 1; to <= len(route); to++ {
			part := route[from:to]
			a, b := part[0], part[len(part)-1]
			time, is := impl.RouteTime(m, part)
			if least, ok := impl.LeastTime(m, a, b); !is || !ok || time != least {
				t.Errorf("the part %v of %v takes %d, %v, and the least time is %d, %v in %v", part, route, time, is, least, ok, m)
			}
			if best, ok := impl.BestRoute(m, a, b); !ok || !slices.Equal(best, part) {
				t.Errorf("the part %v of %v is not the best route %v, %v in %v", part, route, best, ok, m)
			}
		}
	}
}

func TestCellsWithin(t *testing.T) {
	for _, m := range routeMaps() {
		least := leastTimesOn(m)
		for a := range m.Cost {
			limits := []int{0, 1, 2, 3, 5, 9, 1000, math.MaxInt - 1, math.MaxInt}
			for _, time := range least[a] {
				limits = append(limits, max(time-1, 0), max(time, 0))
			}
			for _, limit := range limits {
				want := []int{}
				for b, time := range least[a] {
					if time >= 0 && time <= limit {
						want = append(want, b)
					}
				}
				got, ok := impl.CellsWithin(m, a, limit)
				if ok != (m.Cost[a] != 0) || !slices.Equal(got, want) {
					t.Errorf("CellsWithin(%v, %d, %d) = %v, %v instead of %v", m, a, limit, got, ok, want)
				}
			}
			for _, limit := range []int{-1, -2, math.MinInt} {
				if got, ok := impl.CellsWithin(m, a, limit); ok || len(got) != 0 {
					t.Errorf("CellsWithin(%v, %d, %d) = %v, %v", m, a, limit, got, ok)
				}
			}
		}
	}
}

// checkDetour compares DetourTime and CrossedBy with the least times.
func checkDetour(t *testing.T, m impl.Map, least [][]int, a, by, b int) {
	t.Helper()
	want, valid := 0, least[a][by] >= 0 && least[by][b] >= 0
	if valid {
		want = least[a][by] + least[by][b] - least[a][b]
	}
	if n, ok := impl.DetourTime(m, a, by, b); ok != valid || n != want {
		t.Errorf("DetourTime(%v, %d, %d, %d) = %d, %v instead of %d", m, a, by, b, n, ok, want)
	}
	// An open cell in another part is just not crossed.
	if is, ok := impl.CrossedBy(m, a, b, by); ok != (least[a][b] >= 0 && m.Cost[by] != 0) || is != (valid && want == 0) {
		t.Errorf("CrossedBy(%v, %d, %d, %d) = %v, %v", m, a, b, by, is, ok)
	}
}

func TestDetoursAndCrossings(t *testing.T) {
	for i, m := range routeMaps() {
		cells := len(m.Cost)
		least := leastTimesOn(m)
		for triple := range cells * cells * cells {
			if cells > 16 && (triple+i)%11 != 0 {
				continue
			}
			checkDetour(t, m, least, triple%cells, triple/cells%cells, triple/cells/cells)
		}
	}
}

func TestDetoursByHand(t *testing.T) {
	flat := flatMap(3, 3)
	for _, c := range []struct{ a, by, b, want int }{
		{0, 4, 8, 0}, {0, 8, 0, 8}, {0, 0, 8, 0}, {0, 8, 8, 0}, {0, 0, 0, 0}, {0, 8, 2, 4}, {0, 3, 2, 2}, {3, 1, 5, 2}, {6, 2, 7, 6},
	} {
		if n, ok := impl.DetourTime(flat, c.a, c.by, c.b); !ok || n != c.want {
			t.Errorf("DetourTime from %d by %d to %d = %d, %v instead of %d", c.a, c.by, c.b, n, ok, c.want)
		}
		if is, ok := impl.CrossedBy(flat, c.a, c.b, c.by); !ok || is != (c.want == 0) {
			t.Errorf("CrossedBy from %d to %d, %d = %v, %v", c.a, c.b, c.by, is, ok)
		}
	}
	// The column in the middle is forbidden.
	parts := flatMap(3, 3)
	parts.Cost[1], parts.Cost[4], parts.Cost[7] = 0, 0, 0
	for _, c := range []struct {
		a, b, cell int
		is, ok     bool
	}{
		{0, 6, 3, true, true}, {0, 6, 0, true, true}, {0, 6, 6, true, true}, {0, 3, 6, false, true},
		{0, 6, 2, false, true}, {0, 6, 5, false, true}, {0, 0, 2, false, true}, {0, 0, 0, true, true},
		{0, 6, 1, false, false}, {0, 6, 4, false, false}, {0, 0, 4, false, false},
		{0, 2, 0, false, false}, {0, 2, 2, false, false}, {0, 2, 5, false, false}, {0, 4, 0, false, false},
		{4, 0, 0, false, false}, {4, 4, 4, false, false}, {1, 7, 0, false, false}, {0, 6, 9, false, false},
		{0, 6, -1, false, false}, {9, 6, 3, false, false}, {-1, 6, 3, false, false}, {0, -1, 3, false, false}, {0, 9, 3, false, false},
	} {
		if is, ok := impl.CrossedBy(parts, c.a, c.b, c.cell); is != c.is || ok != c.ok {
			t.Errorf("CrossedBy from %d to %d, %d = %v, %v", c.a, c.b, c.cell, is, ok)
		}
	}
	for _, c := range [][3]int{{0, 2, 6}, {0, 2, 2}, {0, 0, 2}, {0, 6, 2}, {0, 4, 6}, {4, 0, 6}, {0, 6, 4}, {4, 4, 4}, {-1, 0, 6}, {0, -1, 6}, {0, 6, -1}, {9, 0, 6}, {0, 9, 6}, {0, 6, 9}} {
		if n, ok := impl.DetourTime(parts, c[0], c[1], c[2]); ok || n != 0 {
			t.Errorf("DetourTime%v = %d, %v", c, n, ok)
		}
	}
}

func TestFarthestCell(t *testing.T) {
	for _, m := range routeMaps() {
		least := leastTimesOn(m)
		for a := range m.Cost {
			farthest, time := 0, 0
			if valid := m.Cost[a] != 0; valid {
				time = slices.Max(least[a])
				farthest = slices.Index(least[a], time)
			}
			if cell, n, ok := impl.FarthestCell(m, a); ok != (m.Cost[a] != 0) || cell != farthest || n != time {
				t.Errorf("FarthestCell(%v, %d) = %d, %d, %v instead of %d, %d", m, a, cell, n, ok, farthest, time)
			}
		}
	}
}

func TestFarthestCellByHand(t *testing.T) {
	alone := flatMap(3, 3)
	alone.Cost[1], alone.Cost[3], alone.Cost[5], alone.Cost[7] = 0, 0, 0, 0
	for _, c := range []struct {
		m             impl.Map
		a, cell, time int
	}{
		{flatMap(1, 1), 0, 0, 0},
		{flatMap(3, 3), 4, 0, 2},
		{flatMap(3, 3), 8, 0, 4},
		{flatMap(3, 3), 0, 8, 4},
		{flatMap(3, 3), 1, 6, 3},
		{flatMap(3, 3), 7, 0, 3},
		{flatMap(3, 3), 3, 2, 3},
		{flatMap(6, 6), 14, 35, 6},
		{alone, 4, 4, 0},
		{alone, 8, 8, 0},
		{alone, 0, 0, 0},
	} {
		if cell, n, ok := impl.FarthestCell(c.m, c.a); !ok || cell != c.cell || n != c.time {
			t.Errorf("FarthestCell from %d = %d, %d, %v instead of %d, %d", c.a, cell, n, ok, c.cell, c.time)
		}
	}
}

// rejectsCell checks that no function goes from, to or by a cell.
func rejectsCell(t *testing.T, m impl.Map, bad int) {
	t.Helper()
	for _, other := range []int{bad, 0, 1, len(m.Cost) - 1} {
		for _, pair := range [][2]int{{bad, other}, {other, bad}} {
			checkRoute(t, m, pair[0], pair[1], timedRoute{})
			if is, ok := impl.CrossedBy(m, pair[0], pair[1], other); ok || is {
				t.Errorf("CrossedBy(%v, %v, %d) = %v, %v", m, pair, other, is, ok)
			}
		}
		if is, ok := impl.CrossedBy(m, other, other, bad); ok || is {
			t.Errorf("CrossedBy(%v, %d, %d, %d) = %v, %v", m, other, other, bad, is, ok)
		}
		for _, c := range [][3]int{{bad, other, other}, {other, bad, other}, {other, other, bad}, {bad, bad, other}, {bad, other, bad}, {other, bad, bad}} {
			if n, ok := impl.DetourTime(m, c[0], c[1], c[2]); ok || n != 0 {
				t.Errorf("DetourTime(%v, %v) = %d, %v", m, c, n, ok)
			}
		}
	}
	for _, time := range []int{0, 1, 100, math.MaxInt, -1} {
		if got, ok := impl.CellsWithin(m, bad, time); ok || len(got) != 0 {
			t.Errorf("CellsWithin(%v, %d, %d) = %v, %v", m, bad, time, got, ok)
		}
	}
	if cell, n, ok := impl.FarthestCell(m, bad); ok || cell != 0 || n != 0 {
		t.Errorf("FarthestCell(%v, %d) = %d, %d, %v", m, bad, cell, n, ok)
	}
	for _, list := range [][]int{{bad}, {bad, 0}, {0, bad}, {1, bad, 0}} {
		if n, ok := impl.RouteTime(m, list); ok || n != 0 {
			t.Errorf("RouteTime(%v, %v) = %d, %v", m, list, n, ok)
		}
		if n, ok := impl.RouteClimb(m, list); ok || n != 0 {
			t.Errorf("RouteClimb(%v, %v) = %d, %v", m, list, n, ok)
		}
	}
}

func TestRouteFunctionsRejectCells(t *testing.T) {
	for _, m := range routeMaps() {
		cells := len(m.Cost)
		for _, bad := range []int{-1, -m.Width, cells, cells + 1, 36, 1 << 32, math.MaxInt, math.MinInt} {
			rejectsCell(t, m, bad)
		}
		for cell := range cells {
			if m.Cost[cell] == 0 {
				rejectsCell(t, m, cell)
			}
		}
	}
}

func TestRouteFunctionsRejectInvalidMaps(t *testing.T) {
	for _, m := range invalidMaps() {
		for _, cell := range []int{0, 1, 2, -1, 36, math.MaxInt, math.MinInt} {
			rejectsCell(t, m, cell)
		}
		for _, list := range [][]int{nil, {}, {0}, {0, 1}, {1, 2}, {-1}, {math.MaxInt}} {
			if is, ok := impl.IsRoute(m, list); ok || is {
				t.Errorf("IsRoute(%v, %v) = %v, %v", m, list, is, ok)
			}
			if n, ok := impl.RouteTime(m, list); ok || n != 0 {
				t.Errorf("RouteTime(%v, %v) = %d, %v", m, list, n, ok)
			}
			if n, ok := impl.RouteClimb(m, list); ok || n != 0 {
				t.Errorf("RouteClimb(%v, %v) = %d, %v", m, list, n, ok)
			}
		}
	}
}
