package tests

import (
	"math"
	"regexp"
	"slices"
	"strconv"
	"strings"
	"testing"

	"loop.example/g00938/impl"
)

// variedMap has all heights and costs, and about one forbidden cell, of any height, in every
// `gaps` cells; with gaps 1 all are forbidden, with gaps 0 none is.
func variedMap(width, height, gaps, seed int) impl.Map {
	m := impl.Map{Width: width, Height: height}
	state := uint32(seed*977 + 12345)
	next := func(n int) int {
		state = state*1664525 + 1013904223
		return int(state>>16) % n
	}
	for range width * height {
		cost := 1 + next(9)
		if gaps > 0 && next(gaps) == 0 {
			cost = 0
		}
		m.Rise = append(m.Rise, next(10))
		m.Cost = append(m.Cost, cost)
	}
	return m
}

// variedMaps are maps of all sizes.
func variedMaps() []impl.Map {
	maps := []impl.Map{}
	for width := 1; width <= 6; width++ {
		for height := 1; height <= 6; height++ {
			for seed, gaps := range []int{0, 1, 2, 3, 3, 5, 9} {
				maps = append(maps, variedMap(width, height, gaps, seed))
			}
		}
	}
	return maps
}

// invalidMaps each break one rule, or more.
func invalidMaps() []impl.Map {
	maps := []impl.Map{
		{},
		{Width: 1, Height: 1},
		{Width: 0, Height: 1},
		{Width: 1, Height: 0},
		{Width: -1, Height: -1, Rise: []int{1}, Cost: []int{1}},
		{Width: 7, Height: 1, Rise: make([]int, 7), Cost: make([]int, 7)},
		{Width: 1, Height: 7, Rise: make([]int, 7), Cost: make([]int, 7)},
		{Width: 7, Height: 7, Rise: make([]int, 49), Cost: make([]int, 49)},
		{Width: 1 << 32, Height: 1 << 32},
		{Width: 1 << 62, Height: 4},
		{Width: math.MaxInt, Height: math.MaxInt, Rise: []int{1}, Cost: []int{1}},
		{Width: math.MinInt, Height: 2},
	}
	for _, bad := range []int{-1, 10, math.MaxInt, math.MinInt} {
		for _, cell := range []int{0, 3, 5} {
			m := variedMap(3, 2, 0, 1)
			m.Rise[cell] = bad
			maps = append(maps, m)
			m = variedMap(3, 2, 0, 1)
			m.Cost[cell] = bad
			maps = append(maps, m)
		}
	}
	for _, length := range []int{0, 5, 7} {
		m := variedMap(3, 2, 0, 2)
		m.Rise = make([]int, length)
		maps = append(maps, m)
		m = variedMap(3, 2, 0, 2)
		m.Cost = slices.Repeat([]int{1}, length)
		maps = append(maps, m)
		m.Rise = make([]int, length)
		maps = append(maps, m)
	}
	m := variedMap(3, 2, 0, 3)
	m.Width = 2
	maps = append(maps, m)
	m.Width, m.Height = 6, 2
	return append(maps, m)
}

func copyMap(m impl.Map) impl.Map {
	m.Rise, m.Cost = slices.Clone(m.Rise), slices.Clone(m.Cost)
	return m
}

func sameMap(a, b impl.Map) bool {
	return a.Width == b.Width && a.Height == b.Height && slices.Equal(a.Rise, b.Rise) && slices.Equal(a.Cost, b.Cost)
}

func isZeroMap(m impl.Map) bool {
	return sameMap(m, impl.Map{})
}

// areNext follows the document's rule for two cells that occur.
func areNext(m impl.Map, a, b int) bool {
	dx, dy := a%m.Width-b%m.Width, a/m.Width-b/m.Width
	return dy == 0 && (dx == 1 || dx == -1) || dx == 0 && (dy == 1 || dy == -1)
}

// stepOf follows the document's rule for the step time between two cells.
func stepOf(m impl.Map, a, b int) int {
	n := m.Cost[b]
	switch up := m.Rise[b] - m.Rise[a]; {
	case up > 0:
		n += 2 * up
	case up < -2:
		n += -up - 2
	}
	return n
}

func TestIsMap(t *testing.T) {
	for _, m := range variedMaps() {
		if !impl.IsMap(m) {
			t.Errorf("not valid: %v", m)
		}
	}
	for _, m := range []impl.Map{
		{Width: 1, Height: 1, Rise: []int{0}, Cost: []int{0}},
		{Width: 1, Height: 1, Rise: []int{9}, Cost: []int{0}},
		{Width: 1, Height: 1, Rise: []int{9}, Cost: []int{9}},
		{Width: 6, Height: 6, Rise: slices.Repeat([]int{9}, 36), Cost: slices.Repeat([]int{9}, 36)},
		{Width: 6, Height: 6, Rise: make([]int, 36), Cost: make([]int, 36)},
	} {
		if !impl.IsMap(m) {
			t.Errorf("not valid: %v", m)
		}
	}
	for _, m := range invalidMaps() {
		if impl.IsMap(m) {
			t.Errorf("valid: %v", m)
		}
	}
}

func TestCellsNextTo(t *testing.T) {
	for _, m := range variedMaps() {
		for cell := range m.Cost {
			want := []int{}
			for other := range m.Cost {
				if areNext(m, cell, other) && m.Cost[other] != 0 {
					want = append(want, other)
				}
			}
			if got, ok := impl.CellsNextTo(m, cell); !ok || !slices.Equal(got, want) {
				t.Errorf("next to %d: %v, %v instead of %v in %v", cell, got, ok, want, m)
			}
		}
	}
}

func TestCellsNextToByHand(t *testing.T) {
	open := impl.Map{Width: 3, Height: 3, Rise: make([]int, 9), Cost: slices.Repeat([]int{1}, 9)}
	corners := copyMap(open)
	corners.Cost[0], corners.Cost[2], corners.Cost[6], corners.Cost[8] = 0, 0, 0, 0
	edges := copyMap(open)
	edges.Cost[1], edges.Cost[3], edges.Cost[5], edges.Cost[7] = 0, 0, 0, 0
	for _, c := range []struct {
		m    impl.Map
		cell int
		want []int
	}{
		{open, 4, []int{1, 3, 5, 7}},
		{open, 0, []int{1, 3}},
		{open, 2, []int{1, 5}},
		{open, 3, []int{0, 4, 6}},
		{open, 5, []int{2, 4, 8}},
		{open, 6, []int{3, 7}},
		{open, 8, []int{5, 7}},
		{corners, 1, []int{4}},
		{corners, 0, []int{1, 3}},
		{corners, 4, []int{1, 3, 5, 7}},
		{edges, 4, nil},
		{edges, 0, nil},
		{edges, 7, []int{4, 6, 8}},
	} {
		if got, ok := impl.CellsNextTo(c.m, c.cell); !ok || !slices.Equal(got, c.want) {
			t.Errorf("next to %d: %v, %v instead of %v", c.cell, got, ok, c.want)
		}
	}
	alone := impl.Map{Width: 1, Height: 1, Rise: []int{0}, Cost: []int{1}}
	if got, ok := impl.CellsNextTo(alone, 0); !ok || len(got) != 0 {
		t.Errorf("next to the only cell: %v, %v", got, ok)
	}
}

func TestStepTime(t *testing.T) {
	for _, m := range variedMaps() {
		for a := range m.Cost {
			for b := range m.Cost {
				want, valid := 0, areNext(m, a, b) && m.Cost[a] != 0 && m.Cost[b] != 0
				if valid {
					want = stepOf(m, a, b)
				}
				if got, ok := impl.StepTime(m, a, b); ok != valid || got != want {
					t.Errorf("from %d to %d: %d, %v instead of %d in %v", a, b, got, ok, want, m)
				}
			}
		}
	}
}

// TestStepTimeUpAndDown has the heights 5 and 0..9 beside each other.
func TestStepTimeUpAndDown(t *testing.T) {
	want := []int{7, 6, 5, 4, 4, 4, 6, 8, 10, 12}
	for rise, minutes := range want {
		for _, side := range [][2]int{{2, 1}, {1, 2}} {
			m := impl.Map{Width: side[0], Height: side[1], Rise: []int{5, rise}, Cost: []int{9, 4}}
			if got, ok := impl.StepTime(m, 0, 1); !ok || got != minutes {
				t.Errorf("from 5 to %d: %d, %v instead of %d", rise, got, ok, minutes)
			}
		}
	}
	m := impl.Map{Width: 2, Height: 1, Rise: []int{0, 9}, Cost: []int{1, 9}}
	if got, ok := impl.StepTime(m, 0, 1); !ok || got != 27 {
		t.Error("up all", got, ok)
	}
	if got, ok := impl.StepTime(m, 1, 0); !ok || got != 8 {
		t.Error("down all", got, ok)
	}
}

// connected tells for each two cells whether one comes from one to the other.
func connected(m impl.Map) [][]bool {
	n := len(m.Cost)
	reach := make([][]bool, n)
	for a := range n {
		reach[a] = make([]bool, n)
		for b := range n {
			reach[a][b] = m.Cost[a] != 0 && m.Cost[b] != 0 && (a == b || areNext(m, a, b))
		}
	}
	for via := range n {
		for a := range n {
			for b := range n {
				reach[a][b] = reach[a][b] || reach[a][via] && reach[via][b]
			}
		}
	}
	return reach
}

func TestOpenParts(t *testing.T) {
	for _, m := range variedMaps() {
		reach := connected(m)
		want := [][]int{}
		for first := range m.Cost {
			part := []int{}
			for cell := range m.Cost {
				if reach[first][cell] {
					part = append(part, cell)
				}
			}
			if len(part) > 0 && part[0] == first {
				want = append(want, part)
			}
		}
		got, ok := impl.OpenParts(m)
		if !ok || !slices.EqualFunc(got, want, slices.Equal) {
			t.Errorf("parts %v, %v instead of %v", got, ok, want)
		}
	}
}

func TestOpenPartsByHand(t *testing.T) {
	for _, c := range []struct {
		width, height int
		cost          []int
		want          [][]int
	}{
		{1, 1, []int{1}, [][]int{{0}}},
		{1, 1, []int{0}, nil},
		{6, 1, []int{1, 0, 1, 1, 0, 1}, [][]int{{0}, {2, 3}, {5}}},
		{1, 6, []int{0, 1, 1, 0, 0, 1}, [][]int{{1, 2}, {5}}},
		// Cells that touch at a corner only are not next to each other.
		{2, 2, []int{1, 0, 0, 1}, [][]int{{0}, {3}}},
		{3, 3, []int{0, 1, 0, 1, 1, 1, 0, 1, 0}, [][]int{{1, 3, 4, 5, 7}}},
		{3, 3, []int{1, 0, 1, 0, 1, 0, 1, 0, 1}, [][]int{{0}, {2}, {4}, {6}, {8}}},
		{3, 3, []int{1, 1, 1, 0, 0, 1, 1, 1, 1}, [][]int{{0, 1, 2, 5, 6, 7, 8}}},
		{3, 2, []int{1, 0, 1, 1, 0, 1}, [][]int{{0, 3}, {2, 5}}},
		// The end of a row is not next to the beginning of the next row.
		{2, 3, []int{0, 1, 1, 0, 0, 1}, [][]int{{1}, {2}, {5}}},
		{3, 3, make([]int, 9), nil},
	} {
		m := impl.Map{Width: c.width, Height: c.height, Rise: make([]int, len(c.cost)), Cost: c.cost}
		got, ok := impl.OpenParts(m)
		if !ok || !slices.EqualFunc(got, c.want, slices.Equal) {
			t.Errorf("parts of %v: %v, %v instead of %v", m, got, ok, c.want)
		}
	}
}

func TestHighestCell(t *testing.T) {
	for _, m := range variedMaps() {
		want, found := 0, false
		for rise := 9; rise >= 0 && !found; rise-- {
			for cell := range m.Rise {
				if m.Rise[cell] == rise && m.Cost[cell] != 0 {
					want, found = cell, true
					break
				}
			}
		}
		if got, ok := impl.HighestCell(m); ok != found || got != want {
			t.Errorf("highest %d, %v instead of %d, %v in %v", got, ok, want, found, m)
		}
	}
}

func TestHighestCellByHand(t *testing.T) {
	for _, c := range []struct {
		rise, cost []int
		want       int
		found      bool
	}{
		{[]int{0, 0, 0}, []int{1, 1, 1}, 0, true},
		{[]int{0, 0, 0}, []int{0, 1, 1}, 1, true},
		{[]int{1, 3, 3}, []int{1, 1, 1}, 1, true},
		{[]int{9, 3, 4}, []int{0, 1, 1}, 2, true},
		{[]int{2, 9, 2}, []int{9, 0, 1}, 0, true},
		{[]int{9, 9, 0}, []int{0, 0, 1}, 2, true},
		{[]int{1, 2, 3}, []int{0, 0, 0}, 0, false},
	} {
		m := impl.Map{Width: 3, Height: 1, Rise: c.rise, Cost: c.cost}
		if got, ok := impl.HighestCell(m); ok != c.found || got != c.want {
			t.Errorf("highest %d, %v in %v", got, ok, m)
		}
	}
}

func TestMirrorMap(t *testing.T) {
	for _, m := range variedMaps() {
		got, ok := impl.MirrorMap(m)
		if !ok || got.Width != m.Width || got.Height != m.Height || !impl.IsMap(got) {
			t.Fatalf("mirrored to %v, %v from %v", got, ok, m)
		}
		for cell := range m.Rise {
			to := cell - cell%m.Width + m.Width - 1 - cell%m.Width
			if got.Rise[to] != m.Rise[cell] || got.Cost[to] != m.Cost[cell] {
				t.Errorf("the cell %d of %v is not the cell %d of %v", cell, m, to, got)
			}
		}
	}
}

func TestTurnMap(t *testing.T) {
	for _, m := range variedMaps() {
		got, ok := impl.TurnMap(m)
		if !ok || got.Width != m.Height || got.Height != m.Width || !impl.IsMap(got) {
			t.Fatalf("turned to %v, %v from %v", got, ok, m)
		}
		for cell := range m.Rise {
			x, y := m.Height-1-cell/m.Width, cell%m.Width
			to := y*got.Width + x
			if got.Rise[to] != m.Rise[cell] || got.Cost[to] != m.Cost[cell] {
				t.Errorf("the cell %d of %v is not the cell %d of %v", cell, m, to, got)
			}
		}
	}
}

func TestTurnAndMirrorByHand(t *testing.T) {
	m := impl.Map{Width: 3, Height: 2, Rise: []int{1, 2, 3, 4, 5, 6}, Cost: []int{0, 1, 2, 3, 4, 5}}
	turned := impl.Map{Width: 2, Height: 3, Rise: []int{4, 1, 5, 2, 6, 3}, Cost: []int{3, 0, 4, 1, 5, 2}}
	mirrored := impl.Map{Width: 3, Height: 2, Rise: []int{3, 2, 1, 6, 5, 4}, Cost: []int{2, 1, 0, 5, 4, 3}}
	if got, ok := impl.TurnMap(m); !ok || !sameMap(got, turned) {
		t.Error("turned to", got, ok)
	}
	if got, ok := impl.MirrorMap(m); !ok || !sameMap(got, mirrored) {
		t.Error("mirrored to", got, ok)
	}
}

// times applies a function to a map again and again.
func times(t *testing.T, n int, m impl.Map, change func(impl.Map) (impl.Map, bool)) impl.Map {
	t.Helper()
	for range n {
		changed, ok := change(m)
		if !ok {
			t.Fatalf("failed for %v", m)
		}
		m = changed
	}
	return m
}

func TestFourTurnsAndTwoMirrorsAreNoChange(t *testing.T) {
	for _, m := range variedMaps() {
		if got := times(t, 4, m, impl.TurnMap); !sameMap(got, m) {
			t.Errorf("four turns make %v of %v", got, m)
		}
		if got := times(t, 2, m, impl.MirrorMap); !sameMap(got, m) {
			t.Errorf("two mirrors make %v of %v", got, m)
		}
		both := times(t, 1, times(t, 1, m, impl.TurnMap), impl.MirrorMap)
		both = times(t, 1, times(t, 1, both, impl.TurnMap), impl.MirrorMap)
		if !sameMap(both, m) {
			t.Errorf("a turn and a mirror, twice, make %v of %v", both, m)
		}
		half := times(t, 2, m, impl.TurnMap)
		back := copyMap(m)
		slices.Reverse(back.Rise)
		slices.Reverse(back.Cost)
		if !sameMap(half, back) {
			t.Errorf("two turns make %v of %v", half, m)
		}
	}
}

func TestMapText(t *testing.T) {
	for _, m := range variedMaps() {
		want, valid := "", true
		for cell := range m.Rise {
			switch {
			case m.Cost[cell] != 0:
				want += strconv.Itoa(10*m.Cost[cell] + m.Rise[cell])
			case m.Rise[cell] == 0:
				want += "##"
			default:
				valid = false
			}
			if cell%m.Width == m.Width-1 {
				want += "\n"
			} else {
				want += " "
			}
		}
		if !valid {
			want = ""
		}
		if got, ok := impl.MapText(m); ok != valid || got != want {
			t.Errorf("text %q, %v instead of %q", got, ok, want)
		}
	}
}

func TestMapTextByHand(t *testing.T) {
	for _, c := range []struct {
		m    impl.Map
		want string
	}{
		{impl.Map{Width: 1, Height: 1, Rise: []int{0}, Cost: []int{1}}, "10\n"},
		{impl.Map{Width: 1, Height: 1, Rise: []int{9}, Cost: []int{9}}, "99\n"},
		{impl.Map{Width: 1, Height: 1, Rise: []int{0}, Cost: []int{0}}, "##\n"},
		{impl.Map{Width: 2, Height: 2, Rise: []int{0, 1, 2, 0}, Cost: []int{0, 3, 4, 0}}, "## 31\n42 ##\n"},
		{impl.Map{Width: 6, Height: 6, Rise: make([]int, 36), Cost: make([]int, 36)}, strings.Repeat("## ## ## ## ## ##\n", 6)},
	} {
		if got, ok := impl.MapText(c.m); !ok || got != c.want {
			t.Errorf("text %q, %v instead of %q", got, ok, c.want)
		}
		if got, ok := impl.ParseMap(c.want); !ok || !sameMap(got, c.m) {
			t.Errorf("parsed %v, %v instead of %v", got, ok, c.m)
		}
	}
	for _, cell := range []int{0, 1, 3} {
		m := impl.Map{Width: 2, Height: 2, Rise: make([]int, 4), Cost: make([]int, 4)}
		m.Rise[cell] = 1
		if got, ok := impl.MapText(m); ok || got != "" {
			t.Errorf("text %q of a forbidden cell with a height", got)
		}
	}
}

func TestMapsAreRecoveredFromTheirTexts(t *testing.T) {
	for _, m := range variedMaps() {
		for cell := range m.Rise {
			if m.Cost[cell] == 0 {
				m.Rise[cell] = 0
			}
		}
		text, ok := impl.MapText(m)
		if !ok {
			t.Fatalf("no text of %v", m)
		}
		if got, ok := impl.ParseMap(text); !ok || !sameMap(got, m) {
			t.Errorf("parsed %v, %v instead of %v", got, ok, m)
		}
	}
}

func TestParseMapRejects(t *testing.T) {
	row := "11 12 13 14 15 16\n"
	for _, s := range []string{
		"", "\n", "\n\n", " ", "1", "10", "1\n", "110\n", "10 5\n", "10 50", "10 50\n20 20", "##", "# #\n", "#\n", "###\n",
		"00\n", "05\n", "#5\n", "5#\n", "0#\n", "-1\n", "1-\n", "1x\n", "x1\n", "1:\n", ":1\n", "1/\n", "\xff\xff\n",
		" 10\n", "10 \n", "10  20\n", "10\t20\n", "10,20\n", "1020\n", "10 20 \n", "10\n\n", "\n10\n", "10\n\n20\n",
		"10\r\n", "10\n20 20\n", "10 20\n30\n", "10 20\n30 40 50\n", "10 20 30\n10 20\n10\n", "10\n20 30 40\n",
		"10 20\n30 40\n ", "10 20\n30 40\n5", "10 20\n30 40\n50", "10 20\n30 40\n50 60", "10\n20\n30", "10\x0020\n",
		"10 20 30 40\n10 20\n", "10 20\n30 40 50 60\n", "10 20\n30 40\n50\n", "10 20\n30 40 50\n60\n",
		"11 12 13 14 15 16 17\n", strings.Repeat("11\n", 7), strings.Repeat(row, 7), strings.Repeat(row, 6) + "1", strings.Repeat(row, 6) + "\n",
		strings.Repeat(row, 6) + " ", strings.Repeat("1", 108), strings.Repeat("\n", 108), strings.Repeat("11 ", 36), strings.Repeat("11\n", 1000),
		strings.Repeat(row, 5) + "11 12 13 14 15 16", strings.Repeat(row, 5) + "11 12 13 14 15\n",
	} {
		if m, ok := impl.ParseMap(s); ok || !isZeroMap(m) {
			t.Errorf("ParseMap(%q) = %v, %v", s, m, ok)
		}
	}
}

var mapTexts = regexp.MustCompile(`^((?:##|[1-9][0-9])(?: (?:##|[1-9][0-9])){0,5}\n){1,6}$`)

// isMapText follows the document's rule on its own.
func isMapText(s string) bool {
	if !mapTexts.MatchString(s) || !strings.HasSuffix(s, "\n") {
		return false
	}
	rows := strings.Split(strings.TrimSuffix(s, "\n"), "\n")
	for _, row := range rows {
		if len(row) != len(rows[0]) {
			return false
		}
	}
	return true
}

// TestParseMapOfChangedTexts takes texts with a byte changed, removed or added.
func TestParseMapOfChangedTexts(t *testing.T) {
	check := func(s string) {
		m, ok := impl.ParseMap(s)
		if ok != isMapText(s) {
			t.Errorf("ParseMap(%q) = %v, %v", s, m, ok)
		}
		if back, fine := impl.MapText(m); fine != ok || ok && back != s {
			t.Errorf("ParseMap(%q) = %v with the text %q, %v", s, m, back, fine)
		}
		if !ok && !isZeroMap(m) {
			t.Errorf("ParseMap(%q) = %v, %v", s, m, ok)
		}
	}
	row := "11 ## 13 20 99 ##\n"
	for _, s := range []string{"10\n", "##\n", "10 ##\n", "10\n20\n", "12 34\n## 10\n", row, strings.Repeat(row, 6), strings.Repeat("##\n", 6)} {
		eachTextChangedInOnePlace(s, check)
	}
}

func TestMapFunctionsRejectInvalidMaps(t *testing.T) {
	for _, m := range invalidMaps() {
		for _, cell := range []int{0, 1, -1, math.MaxInt, math.MinInt} {
			if got, ok := impl.CellsNextTo(m, cell); ok || len(got) != 0 {
				t.Errorf("CellsNextTo(%v, %d) = %v, %v", m, cell, got, ok)
			}
			for _, other := range []int{0, 1, -1, math.MaxInt} {
				if got, ok := impl.StepTime(m, cell, other); ok || got != 0 {
					t.Errorf("StepTime(%v, %d, %d) = %v, %v", m, cell, other, got, ok)
				}
			}
		}
		if got, ok := impl.OpenParts(m); ok || len(got) != 0 {
			t.Errorf("OpenParts(%v) = %v, %v", m, got, ok)
		}
		if got, ok := impl.HighestCell(m); ok || got != 0 {
			t.Errorf("HighestCell(%v) = %v, %v", m, got, ok)
		}
		if got, ok := impl.MirrorMap(m); ok || !isZeroMap(got) {
			t.Errorf("MirrorMap(%v) = %v, %v", m, got, ok)
		}
		if got, ok := impl.TurnMap(m); ok || !isZeroMap(got) {
			t.Errorf("TurnMap(%v) = %v, %v", m, got, ok)
		}
		if got, ok := impl.MapText(m); ok || got != "" {
			t.Errorf("MapText(%v) = %v, %v", m, got, ok)
		}
	}
}

func TestMapFunctionsRejectCellsThatDoNotOccur(t *testing.T) {
	for _, m := range variedMaps() {
		cells := m.Width * m.Height
		for _, cell := range []int{-1, cells, cells + 1, -m.Width, 36, math.MaxInt, math.MinInt} {
			if got, ok := impl.CellsNextTo(m, cell); ok || len(got) != 0 {
				t.Errorf("CellsNextTo(%v, %d) = %v, %v", m, cell, got, ok)
			}
			for other := range cells {
				if got, ok := impl.StepTime(m, cell, other); ok || got != 0 {
					t.Errorf("StepTime(%v, %d, %d) = %v, %v", m, cell, other, got, ok)
				}
				if got, ok := impl.StepTime(m, other, cell); ok || got != 0 {
					t.Errorf("StepTime(%v, %d, %d) = %v, %v", m, other, cell, got, ok)
				}
			}
			if got, ok := impl.StepTime(m, cell, cell); ok || got != 0 {
				t.Errorf("StepTime(%v, %d, %d) = %v, %v", m, cell, cell, got, ok)
			}
		}
	}
}
