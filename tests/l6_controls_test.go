package tests

import (
	"cmp"
	"math"
	"slices"
	"strconv"
	"testing"

	"loop.example/g00938/impl"
)

// placed are Controls and the Map on which they stand.
type placed struct {
	m    impl.Map
	list []impl.Control
}

// codeSets have Codes beside each other, with the digits exchanged, with another first digit, with
// two equal digits and with a zero, and the limits.
func codeSets() [][]int {
	return [][]int{
		{31, 32, 33, 34, 35, 36, 37, 38, 39, 40},
		{31, 34, 41, 43, 45, 51, 54, 61, 89, 98},
		{90, 91, 92, 93, 94, 95, 96, 97, 98, 99},
		{33, 39, 44, 49, 55, 59, 69, 93, 95, 99},
		{32, 42, 52, 62, 64, 66, 68, 82, 86, 92},
		{31, 41, 42, 43, 50, 53, 60, 63, 73, 83},
	}
}

// openCellsOf returns the cells that are not forbidden in an order of its own for each seed.
func openCellsOf(m impl.Map, seed int) []int {
	cells := []int{}
	for cell := range m.Cost {
		if m.Cost[cell] != 0 {
			cells = append(cells, cell)
		}
	}
	for i := range cells {
		j := (i*7 + seed*5) % len(cells)
		cells[i], cells[j] = cells[j], cells[i]
	}
	return cells
}

// controlsOn returns so many Controls, or fewer if the Map has fewer cells that are not forbidden.
func controlsOn(m impl.Map, count, seed int) []impl.Control {
	codes := codeSets()[seed%len(codeSets())]
	cells := openCellsOf(m, seed)
	list := []impl.Control{}
	for i := range min(count, len(cells)) {
		list = append(list, impl.Control{Code: codes[i+(len(codes)-count)/2], Cell: cells[i]})
	}
	return list
}

// placements are valid Controls, from none to ten, on maps of all sizes.
func placements() []placed {
	all := []placed{}
	for i, m := range variedMaps() {
		for seed := range 2 {
			count := (i + 6*seed) % 11
			all = append(all, placed{m, controlsOn(m, count, i+seed)})
		}
	}
	for seed := range codeSets() {
		m := flatMap(6, 6)
		all = append(all, placed{m, controlsOn(m, 10, seed)}, placed{m, controlsOn(m, 0, seed)})
	}
	return all
}

// areSomeControls is validity in other words than the program's, for a valid Map.
func areSomeControls(m impl.Map, list []impl.Control) bool {
	codes, cells := []int{}, map[int]bool{}
	for _, c := range list {
		if c.Cell < 0 || c.Cell > m.Width*m.Height-1 || m.Cost[c.Cell] == 0 || c.Code < 31 || c.Code > 99 {
			return false
		}
		codes = append(codes, c.Code)
		cells[c.Cell] = true
	}
	return len(list) < 11 && slices.IsSorted(codes) && len(slices.Compact(codes)) == len(list) && len(cells) == len(list)
}

// rejectsControls checks that no function takes a list for valid, also where a move or another
// Code would make it so.
func rejectsControls(t *testing.T, m impl.Map, list []impl.Control) {
	t.Helper()
	if impl.AreControls(m, list) {
		t.Errorf("%v are valid on %v", list, m)
	}
	for _, c := range append(slices.Clone(list), impl.Control{Code: 31}) {
		if cell, ok := impl.CellOfCode(m, list, c.Code); ok || cell != 0 {
			t.Errorf("CellOfCode(%v, %v, %d) = %d, %v", m, list, c.Code, cell, ok)
		}
		if code, ok := impl.CodeAt(m, list, c.Cell); ok || code != 0 {
			t.Errorf("CodeAt(%v, %v, %d) = %d, %v", m, list, c.Cell, code, ok)
		}
		for _, cell := range []int{c.Cell, 0, 1, 2, 3, 11, 35} {
			if code, ok := impl.NearestControl(m, list, cell); ok || code != 0 {
				t.Errorf("NearestControl(%v, %v, %d) = %d, %v", m, list, cell, code, ok)
			}
			if x, ok := impl.MoveControl(m, list, c.Code, cell); ok || len(x) != 0 {
				t.Errorf("MoveControl(%v, %v, %d, %d) = %v, %v", m, list, c.Code, cell, x, ok)
			}
		}
		for _, code := range []int{c.Code, 31, 32, 55, 88, 99} {
			if x, ok := impl.RecodeControl(m, list, c.Code, code); ok || len(x) != 0 {
				t.Errorf("RecodeControl(%v, %v, %d, %d) = %v, %v", m, list, c.Code, code, x, ok)
			}
		}
	}
	for _, distance := range []int{0, 1, 5, 100} {
		if pairs, ok := impl.CloseControls(m, list, distance); ok || len(pairs) != 0 {
			t.Errorf("CloseControls(%v, %v, %d) = %v, %v", m, list, distance, pairs, ok)
		}
	}
	if pairs, ok := impl.ConfusableCodes(m, list); ok || len(pairs) != 0 {
		t.Errorf("ConfusableCodes(%v, %v) = %v, %v", m, list, pairs, ok)
	}
	if code, ok := impl.FreeCode(m, list); ok || code != 0 {
		t.Errorf("FreeCode(%v, %v) = %d, %v", m, list, code, ok)
	}
}

// checkControls compares AreControls with areSomeControls.
func checkControls(t *testing.T, m impl.Map, list []impl.Control) {
	t.Helper()
	if !areSomeControls(m, list) {
		rejectsControls(t, m, list)
	} else if !impl.AreControls(m, list) {
		t.Errorf("%v are not valid on %v", list, m)
	}
}

func TestEveryNumberOfAControl(t *testing.T) {
	for _, m := range append(variedMaps(), flatMap(6, 6)) {
		code := 31 + len(m.Cost)
		for cell := -3; cell < 50; cell++ {
			checkControls(t, m, []impl.Control{{Code: code, Cell: cell}})
		}
		for _, n := range farNumbers {
			rejectsControls(t, m, []impl.Control{{Code: code, Cell: n}})
		}
	}
	m := flatMap(6, 6)
	for code := -110; code <= 400; code++ {
		checkControls(t, m, []impl.Control{{Code: code, Cell: 17}})
	}
	for _, n := range farNumbers {
		rejectsControls(t, m, []impl.Control{{Code: n, Cell: 17}})
		rejectsControls(t, m, []impl.Control{{Code: n, Cell: 17}, {Code: 55, Cell: 18}})
		rejectsControls(t, m, []impl.Control{{Code: 55, Cell: 18}, {Code: n, Cell: 17}})
	}
	rejectsControls(t, m, []impl.Control{{}})
}

func TestEverySmallListOfControls(t *testing.T) {
	m := flatMap(2, 2)
	m.Cost[2] = 0
	valid := 0
	var extend func(list []impl.Control)
	extend = func(list []impl.Control) {
		checkControls(t, m, list)
		if impl.AreControls(m, list) {
			valid++
		}
		if len(list) == 3 {
			return
		}
		for _, code := range []int{30, 31, 32, 99, 100} {
			for cell := -1; cell <= 4; cell++ {
				extend(append(slices.Clone(list), impl.Control{Code: code, Cell: cell}))
			}
		}
	}
	extend(nil)
	// No Control; three Codes in three cells; pairs of them; all three in six orders of the cells.
	if want := 1 + 3*3 + 3*6 + 6; valid != want {
		t.Errorf("%d lists are valid and not %d", valid, want)
	}
}

func TestLongListsOfControls(t *testing.T) {
	m := flatMap(6, 6)
	m.Cost[35] = 0
	for count := range 14 {
		list := []impl.Control{}
		for i := range count {
			list = append(list, impl.Control{Code: 31 + i*5, Cell: 34 - i*2})
		}
		if impl.AreControls(m, list) != (count <= 10) {
			t.Errorf("AreControls of %d", count)
		}
		if count > 10 {
			rejectsControls(t, m, list)
			continue
		}
		for i := range list {
			for j := range i {
				spoiled := slices.Clone(list)
				spoiled[i].Code = list[j].Code
				rejectsControls(t, m, spoiled)
				spoiled = slices.Clone(list)
				spoiled[i].Cell = list[j].Cell
				rejectsControls(t, m, spoiled)
				spoiled = slices.Clone(list)
				spoiled[i], spoiled[j] = spoiled[j], spoiled[i]
				rejectsControls(t, m, spoiled)
			}
			for _, cell := range []int{-1, 35, 36} {
				spoiled := slices.Clone(list)
				spoiled[i].Cell = cell
				rejectsControls(t, m, spoiled)
			}
		}
		if count > 0 {
			spoiled := slices.Clone(list)
			spoiled[0].Code = 30
			rejectsControls(t, m, spoiled)
			spoiled[0].Code = 31
			spoiled[count-1].Code = 99
			checkControls(t, m, spoiled)
			spoiled[count-1].Code = 100
			rejectsControls(t, m, spoiled)
		}
	}
}

func TestElevenControlsAfterTen(t *testing.T) {
	m := flatMap(6, 6)
	for seed, codes := range codeSets() {
		list := controlsOn(m, 10, seed)
		if !impl.AreControls(m, list) || len(list) != 10 || list[0].Code != codes[0] {
			t.Errorf("%v are not valid", list)
		}
		for code := 31; code <= 99; code++ {
			if slices.Contains(codes, code) {
				continue
			}
			more := append(slices.Clone(list), impl.Control{Code: code, Cell: openCellsOf(m, seed)[10]})
			slices.SortFunc(more, func(a, b impl.Control) int { return cmp.Compare(a.Code, b.Code) })
			rejectsControls(t, m, more)
		}
	}
}

func TestControlFunctionsRejectInvalidMaps(t *testing.T) {
	for _, m := range invalidMaps() {
		for _, list := range [][]impl.Control{nil, {}, {{Code: 31, Cell: 0}}, {{Code: 31, Cell: 1}, {Code: 41, Cell: 0}}} {
			rejectsControls(t, m, list)
		}
	}
}

func TestCellsAndCodes(t *testing.T) {
	for _, p := range placements() {
		cells, codes := map[int]int{}, map[int]int{}
		for _, c := range p.list {
			cells[c.Code], codes[c.Cell] = c.Cell, c.Code
		}
		for n := -5; n < 140; n++ {
			want, found := cells[n]
			if cell, ok := impl.CellOfCode(p.m, p.list, n); ok != found || cell != want {
				t.Errorf("CellOfCode(%v, %v, %d) = %d, %v", p.m, p.list, n, cell, ok)
			}
			want, found = codes[n]
			if code, ok := impl.CodeAt(p.m, p.list, n); ok != found || code != want {
				t.Errorf("CodeAt(%v, %v, %d) = %d, %v", p.m, p.list, n, code, ok)
			}
		}
		for _, n := range farNumbers {
			if cell, ok := impl.CellOfCode(p.m, p.list, n); ok || cell != 0 {
				t.Errorf("CellOfCode(%v, %v, %d) = %d, %v", p.m, p.list, n, cell, ok)
			}
			if code, ok := impl.CodeAt(p.m, p.list, n); ok || code != 0 {
				t.Errorf("CodeAt(%v, %v, %d) = %d, %v", p.m, p.list, n, code, ok)
			}
		}
	}
}

// stepsApart returns how many steps are between each two cells if none is forbidden, which is
// their distance.
func stepsApart(m impl.Map) [][]int {
	steps := make([][]int, len(m.Cost))
	for a := range steps {
		steps[a] = slices.Repeat([]int{-1}, len(m.Cost))
		steps[a][a] = 0
		for far := 0; slices.Contains(steps[a], -1); far++ {
			for b := range steps[a] {
				for c := range steps[a] {
					if steps[a][b] == far && steps[a][c] < 0 && areNext(m, b, c) {
						steps[a][c] = far + 1
					}
				}
			}
		}
	}
	return steps
}

func TestCloseControls(t *testing.T) {
	for _, p := range placements() {
		steps := stepsApart(p.m)
		for _, distance := range append([]int{-3, -2, -1, 0, 1, 2, 3, 4, 5, 6, 7, 8, 9, 10, 11, 12}, farNumbers...) {
			want := [][2]int{}
			for _, a := range p.list {
				for _, b := range p.list {
					if a.Code < b.Code && steps[a.Cell][b.Cell] < distance {
						want = append(want, [2]int{a.Code, b.Code})
					}
				}
			}
			pairs, ok := impl.CloseControls(p.m, p.list, distance)
			if ok != (distance >= 0) || !slices.Equal(pairs, want) {
				t.Errorf("CloseControls(%v, %v, %d) = %v, %v", p.m, p.list, distance, pairs, ok)
			}
		}
	}
}

func TestCloseControlsByHand(t *testing.T) {
	// . 99 31
	// 50 . .
	// . 51 .
	m := flatMap(3, 3)
	m.Cost[0], m.Cost[4] = 0, 0
	list := []impl.Control{{Code: 31, Cell: 2}, {Code: 50, Cell: 3}, {Code: 51, Cell: 7}, {Code: 99, Cell: 1}}
	for distance, want := range map[int][][2]int{
		0:           {},
		1:           {},
		2:           {{31, 99}},
		3:           {{31, 99}, {50, 51}, {50, 99}, {51, 99}},
		4:           {{31, 50}, {31, 51}, {31, 99}, {50, 51}, {50, 99}, {51, 99}},
		math.MaxInt: {{31, 50}, {31, 51}, {31, 99}, {50, 51}, {50, 99}, {51, 99}},
	} {
		if pairs, ok := impl.CloseControls(m, list, distance); !ok || !slices.Equal(pairs, want) {
			t.Errorf("CloseControls(%d) = %v, %v", distance, pairs, ok)
		}
	}
	// The end of a row is far from the beginning of the next row, and corners are the farthest.
	for _, c := range []struct {
		width, height, a, b, distance int
	}{
		{6, 6, 5, 6, 6}, {6, 6, 0, 35, 10}, {6, 6, 5, 30, 10}, {6, 6, 0, 5, 5}, {6, 6, 0, 30, 5}, {6, 6, 7, 28, 6}, {6, 6, 10, 25, 6},
		{6, 1, 0, 5, 5}, {1, 6, 5, 0, 5}, {2, 6, 1, 10, 6}, {6, 2, 5, 6, 6}, {2, 2, 0, 3, 2}, {2, 2, 2, 1, 2}, {2, 1, 0, 1, 1},
	} {
		m := flatMap(c.width, c.height)
		for _, list := range [][]impl.Control{{{Code: 40, Cell: c.a}, {Code: 60, Cell: c.b}}, {{Code: 40, Cell: c.b}, {Code: 60, Cell: c.a}}} {
			if pairs, ok := impl.CloseControls(m, list, c.distance); !ok || len(pairs) != 0 {
				t.Errorf("CloseControls(%v, %v, %d) = %v, %v", m, list, c.distance, pairs, ok)
			}
			if pairs, ok := impl.CloseControls(m, list, c.distance+1); !ok || !slices.Equal(pairs, [][2]int{{40, 60}}) {
				t.Errorf("CloseControls(%v, %v, %d) = %v, %v", m, list, c.distance+1, pairs, ok)
			}
		}
	}
}

// mixedUp tells from the texts of two Codes whether they are confusable.
func mixedUp(a, b int) bool {
	x, y := strconv.Itoa(a), strconv.Itoa(b)
	if x == y {
		return false
	}
	exchanged := x[0] == y[1] && x[1] == y[0]
	beside := x[0]+1 == y[0] || y[0]+1 == x[0]
	return exchanged || beside && x[1] == y[1]
}

func TestConfusableCodes(t *testing.T) {
	for _, p := range placements() {
		want := [][2]int{}
		for _, a := range p.list {
			for _, b := range p.list {
				if a.Code < b.Code && mixedUp(a.Code, b.Code) {
					want = append(want, [2]int{a.Code, b.Code})
				}
			}
		}
		if pairs, ok := impl.ConfusableCodes(p.m, p.list); !ok || !slices.Equal(pairs, want) {
			t.Errorf("ConfusableCodes(%v, %v) = %v, %v", p.m, p.list, pairs, ok)
		}
	}
}

func TestEveryPairOfCodes(t *testing.T) {
	m := flatMap(2, 1)
	count := 0
	for a := 31; a <= 99; a++ {
		for b := a + 1; b <= 99; b++ {
			list := []impl.Control{{Code: a, Cell: 1}, {Code: b, Cell: 0}}
			want := [][2]int{}
			if mixedUp(a, b) {
				want = append(want, [2]int{a, b})
				count++
			}
			if pairs, ok := impl.ConfusableCodes(m, list); !ok || !slices.Equal(pairs, want) {
				t.Errorf("ConfusableCodes(%v) = %v, %v", list, pairs, ok)
			}
		}
	}
	// Each Code from 41 on has one 10 below it, and two of 3..9 can be exchanged in 21 ways.
	if count != 59+21 {
		t.Errorf("%d pairs are confusable", count)
	}
}

func TestConfusableCodesByHand(t *testing.T) {
	m := flatMap(6, 6)
	for _, c := range []struct {
		codes []int
		want  [][2]int
	}{
		{[]int{31}, nil},
		// The digits exchanged.
		{[]int{34, 43}, [][2]int{{34, 43}}},
		{[]int{39, 93}, [][2]int{{39, 93}}},
		{[]int{45, 54}, [][2]int{{45, 54}}},
		{[]int{89, 98}, [][2]int{{89, 98}}},
		{[]int{35, 53, 57, 75}, [][2]int{{35, 53}, {57, 75}}},
		// The first digit alone, by 1.
		{[]int{31, 41}, [][2]int{{31, 41}}},
		{[]int{89, 99}, [][2]int{{89, 99}}},
		{[]int{40, 50}, [][2]int{{40, 50}}},
		{[]int{33, 43}, [][2]int{{33, 43}}},
		{[]int{32, 42, 52, 62}, [][2]int{{32, 42}, {42, 52}, {52, 62}}},
		// By more than 1, or another digit, or both.
		{[]int{31, 51}, nil},
		{[]int{31, 91}, nil},
		{[]int{31, 32}, nil},
		{[]int{39, 40}, nil},
		{[]int{39, 50}, nil},
		{[]int{31, 42}, nil},
		{[]int{41, 50}, nil},
		{[]int{31, 33}, nil},
		{[]int{33, 44}, nil},
		{[]int{44, 55, 66, 77, 88, 99}, nil},
		{[]int{40, 44, 60, 64}, nil},
		{[]int{34, 44, 45, 54}, [][2]int{{34, 44}, {44, 54}, {45, 54}}},
		// Both ways for one Code, in the order of the pairs.
		{[]int{34, 43, 44, 53}, [][2]int{{34, 43}, {34, 44}, {43, 53}}},
		{[]int{35, 45, 53, 54, 55}, [][2]int{{35, 45}, {35, 53}, {45, 54}, {45, 55}}},
		{[]int{67, 76, 77, 86}, [][2]int{{67, 76}, {67, 77}, {76, 86}}},
	} {
		list := []impl.Control{}
		for i, code := range c.codes {
			list = append(list, impl.Control{Code: code, Cell: 35 - i*4})
		}
		if pairs, ok := impl.ConfusableCodes(m, list); !ok || !slices.Equal(pairs, c.want) {
			t.Errorf("ConfusableCodes(%v) = %v, %v", list, pairs, ok)
		}
	}
}

func TestNearestControl(t *testing.T) {
	for _, p := range placements() {
		steps := stepsApart(p.m)
		for cell := range p.m.Cost {
			// The first of several in the order of their distances and then of their Codes.
			byDistance := slices.Clone(p.list)
			slices.SortFunc(byDistance, func(a, b impl.Control) int {
				return cmp.Or(cmp.Compare(steps[a.Cell][cell], steps[b.Cell][cell]), cmp.Compare(a.Code, b.Code))
			})
			want := 0
			if len(byDistance) > 0 {
				want = byDistance[0].Code
			}
			if code, ok := impl.NearestControl(p.m, p.list, cell); ok != (want != 0) || code != want {
				t.Errorf("NearestControl(%v, %v, %d) = %d, %v", p.m, p.list, cell, code, ok)
			}
		}
		cells := len(p.m.Cost)
		for _, cell := range append([]int{-1, -2, -cells, cells, cells + 1, 36}, farNumbers...) {
			if code, ok := impl.NearestControl(p.m, p.list, cell); ok || code != 0 {
				t.Errorf("NearestControl(%v, %v, %d) = %d, %v", p.m, p.list, cell, code, ok)
			}
		}
	}
}

func TestNearestControlByHand(t *testing.T) {
	// 40 . 31
	// .  . .
	// 60 . 50
	m := flatMap(3, 3)
	m.Cost[4], m.Cost[5], m.Cost[7] = 0, 0, 0
	list := []impl.Control{{Code: 31, Cell: 2}, {Code: 40, Cell: 0}, {Code: 50, Cell: 8}, {Code: 60, Cell: 6}}
	// The middle and two sides are forbidden; distances are counted over forbidden cells, too.
	for cell, want := range []int{40, 31, 31, 40, 31, 31, 60, 50, 50} {
		if code, ok := impl.NearestControl(m, list, cell); !ok || code != want {
			t.Errorf("NearestControl(%d) = %d, %v", cell, code, ok)
		}
	}
	if code, ok := impl.NearestControl(m, nil, 0); ok || code != 0 {
		t.Errorf("of no Controls the nearest is %d, %v", code, ok)
	}
	if code, ok := impl.NearestControl(m, list[3:], 2); !ok || code != 60 {
		t.Errorf("of one Control the nearest is %d, %v", code, ok)
	}
}

func indexOfCode(list []impl.Control, code int) int {
	return slices.IndexFunc(list, func(c impl.Control) bool { return c.Code == code })
}

// codesToTry returns the Codes of the Controls and some that are not in the list, or no Codes.
func codesToTry(list []impl.Control) []int {
	codes := []int{-1, 0, 30, 31, 50, 99, 100}
	for _, c := range list {
		codes = append(codes, c.Code)
	}
	return codes
}

// checkMoved compares MoveControl with a change of the cell, and moves back.
func checkMoved(t *testing.T, m impl.Map, list []impl.Control, code, cell int) {
	t.Helper()
	want := slices.Clone(list)
	place := indexOfCode(list, code)
	if place >= 0 {
		want[place].Cell = cell
	}
	moved, ok := impl.MoveControl(m, list, code, cell)
	if place < 0 || !areSomeControls(m, want) {
		if ok || len(moved) != 0 {
			t.Errorf("MoveControl(%v, %v, %d, %d) = %v, %v", m, list, code, cell, moved, ok)
		}
		return
	}
	if !ok || !slices.Equal(moved, want) || !impl.AreControls(m, moved) {
		t.Errorf("MoveControl(%v, %v, %d, %d) = %v, %v", m, list, code, cell, moved, ok)
	}
	if back, ok := impl.MoveControl(m, moved, code, list[place].Cell); !ok || !slices.Equal(back, list) {
		t.Errorf("%v moved to %v and back is %v, %v", list, moved, back, ok)
	}
}

func TestMovedControlThatIsMovedBackIsAsBefore(t *testing.T) {
	for _, p := range placements() {
		for _, code := range codesToTry(p.list) {
			for cell := -2; cell < len(p.m.Cost)+2; cell++ {
				checkMoved(t, p.m, p.list, code, cell)
			}
			for _, n := range farNumbers {
				checkMoved(t, p.m, p.list, code, n)
			}
		}
		for _, n := range farNumbers {
			checkMoved(t, p.m, p.list, n, 0)
		}
	}
}

// TestManyMovesAndBack moves each Control to cells that are free, and then all of them back in the
// opposite order.
func TestManyMovesAndBack(t *testing.T) {
	for _, p := range placements() {
		list := slices.Clone(p.list)
		moves := []impl.Control{}
		for _, cell := range openCellsOf(p.m, 3) {
			for _, c := range list {
				if moved, ok := impl.MoveControl(p.m, list, c.Code, cell); ok {
					moves, list = append(moves, c), moved
					break
				}
			}
		}
		if len(p.list) > 0 && len(moves) == 0 {
			t.Errorf("no move of %v on %v", p.list, p.m)
		}
		for _, c := range slices.Backward(moves) {
			var ok bool
			if list, ok = impl.MoveControl(p.m, list, c.Code, c.Cell); !ok {
				t.Errorf("%v is not moved back on %v", c, p.m)
			}
		}
		if !slices.Equal(list, p.list) {
			t.Errorf("%v moved away and back are %v", p.list, list)
		}
	}
}

func TestMoveControlByHand(t *testing.T) {
	m := impl.Map{Width: 3, Height: 2, Rise: make([]int, 6), Cost: []int{1, 2, 1, 0, 3, 1}}
	list := []impl.Control{{Code: 31, Cell: 0}, {Code: 34, Cell: 5}, {Code: 43, Cell: 4}}
	for cell, want := range map[int][]impl.Control{
		1: {{Code: 31, Cell: 0}, {Code: 34, Cell: 1}, {Code: 43, Cell: 4}},
		2: {{Code: 31, Cell: 0}, {Code: 34, Cell: 2}, {Code: 43, Cell: 4}},
		5: {{Code: 31, Cell: 0}, {Code: 34, Cell: 5}, {Code: 43, Cell: 4}},
	} {
		if moved, ok := impl.MoveControl(m, list, 34, cell); !ok || !slices.Equal(moved, want) {
			t.Errorf("MoveControl to %d = %v, %v", cell, moved, ok)
		}
	}
	// The cell 3 is forbidden, in 0 and 4 stand others, 6 and -1 do not occur, and the rest are nobody's Codes.
	for _, bad := range [][2]int{{34, 3}, {34, 0}, {34, 4}, {34, 6}, {34, -1}, {33, 1}, {35, 1}, {30, 1}, {100, 1}, {1, 1}} {
		if moved, ok := impl.MoveControl(m, list, bad[0], bad[1]); ok || len(moved) != 0 {
			t.Errorf("MoveControl of %d to %d = %v, %v", bad[0], bad[1], moved, ok)
		}
	}
}

// checkRecoded compares RecodeControl with a change of the Code and sorting, and changes it back.
func checkRecoded(t *testing.T, m impl.Map, list []impl.Control, code, to int) {
	t.Helper()
	want := slices.Clone(list)
	place := indexOfCode(list, code)
	if place >= 0 {
		want[place].Code = to
	}
	slices.SortFunc(want, func(a, b impl.Control) int { return cmp.Compare(a.Code, b.Code) })
	recoded, ok := impl.RecodeControl(m, list, code, to)
	if place < 0 || !areSomeControls(m, want) {
		if ok || len(recoded) != 0 {
			t.Errorf("RecodeControl(%v, %v, %d, %d) = %v, %v", m, list, code, to, recoded, ok)
		}
		return
	}
	if !ok || !slices.Equal(recoded, want) || !impl.AreControls(m, recoded) {
		t.Errorf("RecodeControl(%v, %v, %d, %d) = %v, %v", m, list, code, to, recoded, ok)
	}
	if back, ok := impl.RecodeControl(m, recoded, to, code); !ok || !slices.Equal(back, list) {
		t.Errorf("%v recoded to %v and back is %v, %v", list, recoded, back, ok)
	}
}

func TestRecodeControl(t *testing.T) {
	for _, p := range placements() {
		for _, code := range codesToTry(p.list) {
			for to := 28; to <= 102; to++ {
				checkRecoded(t, p.m, p.list, code, to)
			}
			for _, n := range append([]int{-1, 0, 1}, farNumbers...) {
				checkRecoded(t, p.m, p.list, code, n)
			}
		}
		for _, n := range farNumbers {
			checkRecoded(t, p.m, p.list, n, 31)
			checkRecoded(t, p.m, p.list, n, n)
		}
	}
}

func TestRecodeControlByHand(t *testing.T) {
	m := flatMap(3, 2)
	list := []impl.Control{{Code: 34, Cell: 5}, {Code: 43, Cell: 0}, {Code: 60, Cell: 2}}
	for _, c := range []struct {
		code, to int
		want     []impl.Control
	}{
		{34, 34, list},
		{43, 43, list},
		{60, 60, list},
		{34, 31, []impl.Control{{Code: 31, Cell: 5}, {Code: 43, Cell: 0}, {Code: 60, Cell: 2}}},
		{34, 50, []impl.Control{{Code: 43, Cell: 0}, {Code: 50, Cell: 5}, {Code: 60, Cell: 2}}},
		{34, 99, []impl.Control{{Code: 43, Cell: 0}, {Code: 60, Cell: 2}, {Code: 99, Cell: 5}}},
		{43, 31, []impl.Control{{Code: 31, Cell: 0}, {Code: 34, Cell: 5}, {Code: 60, Cell: 2}}},
		{43, 99, []impl.Control{{Code: 34, Cell: 5}, {Code: 60, Cell: 2}, {Code: 99, Cell: 0}}},
		{43, 44, []impl.Control{{Code: 34, Cell: 5}, {Code: 44, Cell: 0}, {Code: 60, Cell: 2}}},
		{60, 31, []impl.Control{{Code: 31, Cell: 2}, {Code: 34, Cell: 5}, {Code: 43, Cell: 0}}},
		{60, 35, []impl.Control{{Code: 34, Cell: 5}, {Code: 35, Cell: 2}, {Code: 43, Cell: 0}}},
		// A Code that is confusable with others is allowed.
		{60, 53, []impl.Control{{Code: 34, Cell: 5}, {Code: 43, Cell: 0}, {Code: 53, Cell: 2}}},
		{34, 43, nil}, {34, 60, nil}, {43, 34, nil}, {60, 34, nil}, {34, 30, nil}, {34, 100, nil}, {60, 0, nil}, {60, -43, nil},
		{35, 36, nil}, {35, 35, nil}, {33, 34, nil}, {30, 31, nil}, {100, 31, nil}, {0, 0, nil},
	} {
		recoded, ok := impl.RecodeControl(m, list, c.code, c.to)
		if ok != (c.want != nil) || !slices.Equal(recoded, c.want) {
			t.Errorf("RecodeControl of %d to %d = %v, %v", c.code, c.to, recoded, ok)
		}
	}
}

// firstFree tries the Codes in order.
func firstFree(list []impl.Control) int {
	code := 31
	for slices.ContainsFunc(list, func(c impl.Control) bool { return c.Code == code || mixedUp(c.Code, code) }) {
		code++
	}
	return code
}

func checkFree(t *testing.T, m impl.Map, list []impl.Control) {
	t.Helper()
	if code, ok := impl.FreeCode(m, list); !ok || code != firstFree(list) {
		t.Errorf("FreeCode(%v, %v) = %d, %v", m, list, code, ok)
	}
}

func TestFreeCode(t *testing.T) {
	for _, p := range placements() {
		checkFree(t, p.m, p.list)
	}
	// All lists with one, two or three Codes.
	m := flatMap(3, 1)
	for a := 31; a <= 99; a++ {
		checkFree(t, m, []impl.Control{{Code: a, Cell: 1}})
		for b := a + 1; b <= 99; b++ {
			checkFree(t, m, []impl.Control{{Code: a, Cell: 2}, {Code: b, Cell: 0}})
			for c := b + 1; c <= 99; c++ {
				checkFree(t, m, []impl.Control{{Code: a, Cell: 0}, {Code: b, Cell: 1}, {Code: c, Cell: 2}})
			}
		}
	}
}

// TestFreeCodeOfTenControls takes ten Codes one after the other, as they are free, and lists that
// leave few Codes free at the beginning.
func TestFreeCodeOfTenControls(t *testing.T) {
	m := flatMap(6, 6)
	list := []impl.Control{}
	for _, want := range []int{31, 32, 33, 34, 35, 36, 37, 38, 39, 40} {
		if code, ok := impl.FreeCode(m, list); !ok || code != want {
			t.Errorf("FreeCode(%v) = %d, %v", list, code, ok)
		}
		list = append(list, impl.Control{Code: want, Cell: want - 20})
	}
	for _, c := range []struct {
		codes []int
		want  int
	}{
		// Each Code from 41 to 50 is confusable with the one that is 10 less.
		{[]int{31, 32, 33, 34, 35, 36, 37, 38, 39, 40}, 51},
		{[]int{41}, 32},
		{[]int{41, 42}, 33},
		// 43 is confusable with 33 and 34.
		{[]int{41, 42, 43}, 35},
		{[]int{41, 42, 43, 53, 63, 73, 83, 93}, 40},
		{[]int{41, 42, 43, 45, 46, 47, 48, 49, 50}, 44},
		{[]int{41, 42, 43, 45, 46, 47, 48, 49, 50, 54}, 61},
		// Both 31 to 40 and 51 to 60 are confusable with 41 to 50.
		{[]int{41, 42, 43, 44, 45, 46, 47, 48, 49, 50}, 61},
		{[]int{41, 42, 43, 45, 46, 47, 48, 49, 50, 51}, 44},
		{[]int{90, 91, 92, 93, 94, 95, 96, 97, 98, 99}, 31},
		// 13, 23 and 24 would be 31, 32 and 42 with the digits exchanged, but are no Codes.
		{[]int{32, 42}, 31},
		{[]int{99}, 31},
		{[]int{31}, 32},
		{nil, 31},
	} {
		list := []impl.Control{}
		for i, code := range c.codes {
			list = append(list, impl.Control{Code: code, Cell: i * 3})
		}
		if code, ok := impl.FreeCode(m, list); !ok || code != c.want || code != firstFree(list) {
			t.Errorf("FreeCode(%v) = %d, %v", list, code, ok)
		}
	}
}
