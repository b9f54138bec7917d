package tests

import (
	"fmt"
	"math"
	"strings"
	"testing"

	"loop.example/g01346/impl"
)

// This file holds a model of chapter 2 that is written apart from the program,
// and holds many rows against it, bit by bit. It computes each operation with
// 64-bit numbers and narrows it at once, which gives the same as an operation
// on 32-bit numbers, and cannot join a product with a sum.

func narrow(x float64) float64 { return float64(float32(x)) }

func modelAdd(a, b float64) float64  { return narrow(a + b) }
func modelLess(a, b float64) float64 { return narrow(a - b) }
func modelMul(a, b float64) float64  { return narrow(a * b) }
func modelDiv(a, b float64) float64  { return narrow(a / b) }

func modelDot(a, b []float64) float64 {
	sum := 0.0
	for i := range a {
		sum = modelAdd(sum, modelMul(a[i], b[i]))
	}
	return sum
}

func finite(list ...float64) bool {
	for _, x := range list {
		if math.IsNaN(x) || math.IsInf(x, 0) {
			return false
		}
	}
	return true
}

func wide(list []float32) []float64 {
	var all []float64
	for _, x := range list {
		all = append(all, float64(x))
	}
	return all
}

func hexWide(list []float64) string {
	var all []float32
	for _, x := range list {
		all = append(all, float32(x))
	}
	return hexList(all)
}

// hexList tells numbers by their bits.
func hexList(list []float32) string {
	var texts []string
	for _, x := range list {
		texts = append(texts, hex(x))
	}
	return strings.Join(texts, " ")
}

// modelTable is a table in the form of the model, or rows with Basis nil.
type modelTable struct {
	vars  int
	rows  [][]float64
	basis []int
}

func modelOf(t impl.Table) modelTable {
	m := modelTable{vars: int(t.Vars)}
	width := len(t.Numbers) / (len(t.Basis) + 1)
	for from := 0; from < len(t.Numbers); from += width {
		m.rows = append(m.rows, wide(t.Numbers[from:from+width]))
	}
	for _, b := range t.Basis {
		m.basis = append(m.basis, int(b))
	}
	return m
}

func modelOfRows(r impl.Rows) modelTable {
	vars, rows := int(r.Vars), len(r.Bounds)
	m := modelTable{vars: vars}
	for i := range rows + 1 {
		row := make([]float64, vars+rows+1)
		for k := range vars {
			if i < rows {
				row[k] = float64(r.Numbers[i*vars+k])
			} else {
				row[k] = math.Copysign(float64(r.Gains[k]), 1)
				if !math.Signbit(float64(r.Gains[k])) {
					row[k] = math.Copysign(row[k], -1)
				}
			}
		}
		if i < rows {
			row[vars+i], row[vars+rows] = 1, float64(r.Bounds[i])
			m.basis = append(m.basis, vars+i)
		}
		m.rows = append(m.rows, row)
	}
	return m
}

func (m modelTable) text() string {
	var texts []string
	for _, row := range m.rows {
		texts = append(texts, hexWide(row))
	}
	return fmt.Sprint(m.vars, " ", m.basis, " ", strings.Join(texts, " "))
}

func (m modelTable) enter(near float64) int {
	last := m.rows[len(m.rows)-1]
	for k := 0; k < len(last)-1; k++ {
		if last[k]+near < 0 { // exact enough: a sum of two 32-bit numbers has the right sign
			return k
		}
	}
	return -1
}

func (m modelTable) leave(column int, near float64) int {
	best, bestQuotient := -1, 0.0
	for i, b := range m.basis {
		row := m.rows[i]
		if row[column] <= near {
			continue
		}
		q := modelDiv(row[len(row)-1], row[column])
		if best < 0 || q < bestQuotient || q == bestQuotient && b < m.basis[best] {
			best, bestQuotient = i, q
		}
	}
	return best
}

func (m modelTable) pivot(row, column int) (modelTable, bool) {
	by := m.rows[row][column]
	if by == 0 {
		return modelTable{}, false
	}
	after := modelTable{vars: m.vars, rows: make([][]float64, len(m.rows))}
	for k, b := range m.basis {
		if k == row {
			b = column
		} else if b == column {
			return modelTable{}, false
		}
		after.basis = append(after.basis, b)
	}
	for k, x := range m.rows[row] {
		x = modelDiv(x, by)
		if k == column {
			x = 1
		}
		after.rows[row] = append(after.rows[row], x)
	}
	for i, was := range m.rows {
		for k, x := range was {
			switch {
			case i == row:
				continue
			case k == column:
				x = 0
			default:
				x = modelLess(x, modelMul(was[column], after.rows[row][k]))
			}
			after.rows[i] = append(after.rows[i], x)
		}
		if !finite(after.rows[i]...) {
			return modelTable{}, false
		}
	}
	return after, true
}

// solve returns the last table, how often it was pivoted, and the column along
// which there is no end, or -1.
func (m modelTable) solve(most int, near float64) (modelTable, int, int, bool) {
	for steps := 0; steps <= most; steps++ {
		column := m.enter(near)
		if column < 0 {
			return m, steps, -1, true
		}
		if steps == most {
			break
		}
		row := m.leave(column, near)
		if row < 0 {
			return m, steps, column, true
		}
		after, ok := m.pivot(row, column)
		if !ok {
			break
		}
		m = after
	}
	return modelTable{}, 0, 0, false
}

func (m modelTable) plan() string {
	plan := make([]float64, m.vars)
	for i, b := range m.basis {
		if b < m.vars {
			plan[b] = m.rows[i][len(m.rows[i])-1]
		}
	}
	return hexWide(plan)
}

func (m modelTable) prices() string {
	last := m.rows[len(m.rows)-1]
	return hexWide(last[m.vars : len(last)-1])
}

func (m modelTable) ray(column int) string {
	ray := make([]float64, m.vars)
	for k := range ray {
		for i, b := range m.basis {
			if b == k {
				ray[k] = math.Copysign(m.rows[i][column], -1)
				if math.Signbit(m.rows[i][column]) {
					ray[k] = math.Abs(m.rows[i][column])
				}
			}
		}
		if k == column {
			ray[k] = 1
		}
	}
	return hexWide(ray)
}

// span returns how far a bound can go, where m is solved.
func (m modelTable) span(bound float64, column int, near float64) (float64, float64, bool) {
	var above, below []float64
	for i := range m.basis {
		row := m.rows[i]
		q := modelDiv(row[len(row)-1], row[column])
		if row[column] > near {
			above = append(above, q)
		}
		if row[column] < -near {
			below = append(below, -q)
		}
	}
	low, high := 0.0, modelAdd(bound, 1000000)
	if len(above) > 0 {
		low = modelLess(bound, leastWide(above))
	}
	if len(below) > 0 {
		high = modelAdd(bound, leastWide(below))
	}
	return low, high, finite(low, high)
}

func leastWide(list []float64) float64 {
	least := list[0]
	for _, x := range list {
		if x < least {
			least = x
		}
	}
	return least
}

func modelLeft(r impl.Rows, x []float64) []float64 {
	var left []float64
	vars := int(r.Vars)
	for i, bound := range r.Bounds {
		left = append(left, modelLess(float64(bound), modelDot(wide(r.Numbers[i*vars:(i+1)*vars]), x)))
	}
	return left
}

func modelIsPlan(r impl.Rows, x []float64, near float64) bool {
	left := modelLeft(r, x)
	if !finite(x...) || !finite(left...) {
		return false
	}
	for _, y := range append(left, x...) {
		if y < -near {
			return false
		}
	}
	return true
}

// modelCorner returns the best corner of rows of two numbers.
func modelCorner(r impl.Rows, near float64) (string, bool) {
	var lines [][3]float64
	for i, bound := range r.Bounds {
		lines = append(lines, [3]float64{float64(r.Numbers[2*i]), float64(r.Numbers[2*i+1]), float64(bound)})
	}
	lines = append(lines, [3]float64{1, 0, 0}, [3]float64{0, 1, 0})
	best, most, found := "", 0.0, false
	for i := 0; i < len(lines); i++ {
		for k := i + 1; k < len(lines); k++ {
			a, b, c := lines[i][0], lines[i][1], lines[i][2]
			d, e, f := lines[k][0], lines[k][1], lines[k][2]
			g := modelLess(modelMul(a, e), modelMul(b, d))
			if math.IsNaN(g) || math.Abs(g) <= near {
				continue
			}
			x := []float64{
				modelDiv(modelLess(modelMul(c, e), modelMul(b, f)), g),
				modelDiv(modelLess(modelMul(a, f), modelMul(c, d)), g),
			}
			gain := modelDot(wide(r.Gains), x)
			if modelIsPlan(r, x, near) && finite(gain) && (!found || gain > most) {
				best, most, found = hexWide(x), gain, true
			}
		}
	}
	return best, found
}

// sequence tells numbers by a short rule.
type sequence uint32

func (s *sequence) below(n int) int {
	*s = *s*1664525 + 1013904223
	return int(uint32(*s)>>8) % n
}

// manyRows returns rows of several kinds: of small integers, of tenths, of
// numbers of very different sizes, and of edges. Zeros have either sign.
func manyRows(n int) []impl.Rows {
	state := sequence(2)
	var edges []float32
	for _, x := range edgeNumbers() {
		if finite(float64(x)) {
			edges = append(edges, x)
		}
	}
	numbers := []func() float32{
		func() float32 { return float32(state.below(7) - 3) },
		func() float32 { return float32(state.below(60)-20) / 10 },
		func() float32 { return float32(state.below(201)-60) * 1.1 },
		func() float32 { return float32(math.Ldexp(float64(state.below(999)-300), state.below(60)-30)) },
		func() float32 { return edges[state.below(len(edges))] },
		func() float32 { return float32(state.below(3)-1) * num(bitsZero+bitsOne) },
	}
	var list []impl.Rows
	for i := range n {
		number := numbers[i%len(numbers)]
		vars, rows := 1+state.below(impl.MaxVars), 1+state.below(impl.MaxRows)
		if i%3 == 0 {
			vars = 2
		}
		r := impl.Rows{Vars: int64(vars)}
		for range vars * rows {
			r.Numbers = append(r.Numbers, number())
		}
		for range rows {
			x := number()
			if x < 0 {
				x = -x
			}
			if state.below(5) == 0 {
				x = num(bitsMinusZero)
			}
			r.Bounds = append(r.Bounds, x)
		}
		for range vars {
			r.Gains = append(r.Gains, number())
		}
		list = append(list, r)
	}
	return list
}

func manyNears() []float32 { return []float32{0, 0x1p-20, num(bitsMinusZero), 0.25, 1} }

// tableText tells a table in the form of the model's.
func tableText(t impl.Table) string {
	return strings.TrimSpace(fmt.Sprint(t.Vars, " ", t.Basis, " ", hexList(t.Numbers)))
}

func TestTablesAreThoseOfTheModel(t *testing.T) {
	failed, pivots := 0, 0
	for n, r := range manyRows(3000) {
		table, ok := impl.TableOf(r)
		wantBool(t, "TableOf", ok, true)
		m := modelOfRows(r)
		wantText(t, "TableOf", tableText(table), m.text())
		near := manyNears()[n%len(manyNears())]
		for step := range 12 {
			column, ok := impl.EnterOf(table, near)
			wantBool(t, "EnterOf", ok && column == int64(m.enter(float64(near))), true)
			for c := range len(m.rows[0]) - 1 {
				row, ok := impl.LeaveOf(table, int64(c), near)
				wantBool(t, "LeaveOf", ok && row == int64(m.leave(c, float64(near))), true)
			}
			// Any place will do, so that tables are reached that SolveTable would not reach.
			row, c := (n+step)%len(m.basis), (n*7+step*3)%(len(m.rows[0])-1)
			after, ok := impl.PivotTable(table, int64(row), int64(c))
			want, wantOk := m.pivot(row, c)
			wantBool(t, "PivotTable "+tableText(table), ok, wantOk)
			if !ok {
				failed++
				continue
			}
			pivots++
			wantText(t, "PivotTable", tableText(after), want.text())
			table, m = after, want
		}
		if t.Failed() {
			t.Fatalf("at rows %d: %v", n, r)
		}
	}
	if failed < 1000 || pivots < 1000 {
		t.Errorf("%d pivots and %d that are none are too few", pivots, failed)
	}
}

// solvedText tells all that is found by pivots, and how the model tells it.
func solvedText(r impl.Rows, most int64, near float32) (string, string) {
	table, _ := impl.TableOf(r)
	last, steps, one := impl.SolveTable(table, most, near)
	plan, prices, two := impl.SolveRows(r, most, near)
	ray, three := impl.RayOf(r, most, near)
	got := fmt.Sprint(one, two, three, steps, " ", tableText(last), " ", hexList(plan), " ", hexList(prices), " ", hexList(ray))
	m, count, column, ok := modelOfRows(r).solve(int(most), float64(near))
	switch {
	case ok && column < 0:
		return got, fmt.Sprint(true, true, false, count, " ", m.text(), " ", m.plan(), " ", m.prices(), " ")
	case ok:
		return got, fmt.Sprint(false, false, true, 0, " ", tableText(impl.Table{}), "   ", m.ray(column))
	}
	return got, fmt.Sprint(false, false, false, 0, " ", tableText(impl.Table{}), "   ")
}

func TestSolvedRowsAreThoseOfTheModel(t *testing.T) {
	solved, rays := 0, 0
	for n, r := range manyRows(6000) {
		near := manyNears()[n/7%len(manyNears())]
		for _, most := range []int64{0, 1, 2, 5, 64} {
			got, want := solvedText(r, most, near)
			wantText(t, "solved rows", got, want)
			if most == 64 && strings.HasPrefix(want, "true") {
				solved++
			} else if most == 64 && strings.HasPrefix(want, "false false true") {
				rays++
			}
		}
		if t.Failed() {
			t.Fatalf("at rows %d, near %v: %v", n, near, r)
		}
	}
	if solved < 1000 || rays < 1000 {
		t.Errorf("%d solved rows and %d rays are too few", solved, rays)
	}
}

func TestRangesAreThoseOfTheModel(t *testing.T) {
	found := 0
	for n, r := range manyRows(6000) {
		near := manyNears()[n/7%len(manyNears())]
		m, _, column, ok := modelOfRows(r).solve(64, float64(near))
		for i, bound := range r.Bounds {
			var want string
			low, high, wantOk := 0.0, 0.0, false
			if ok && column < 0 {
				low, high, wantOk = m.span(float64(bound), m.vars+i, float64(near))
			}
			if want = hexWide([]float64{low, high}); !wantOk {
				want = hexWide([]float64{0, 0})
			} else {
				found++
			}
			a, b, gotOk := impl.BoundRange(r, int64(i), 64, near)
			wantBool(t, "BoundRange", gotOk, wantOk)
			wantText(t, "BoundRange", hexList([]float32{a, b}), want)
		}
		if t.Failed() {
			t.Fatalf("at rows %d, near %v: %v", n, near, r)
		}
	}
	if found < 3000 {
		t.Errorf("%d ranges are too few", found)
	}
}

func TestCornersAreThoseOfTheModel(t *testing.T) {
	found := 0
	for n, r := range manyRows(6000) {
		near := manyNears()[n/7%len(manyNears())]
		got, ok := impl.BestCorner(r, near)
		want, wantOk := "", false
		if r.Vars == 2 {
			want, wantOk = modelCorner(r, float64(near))
		}
		wantBool(t, "BestCorner", ok, wantOk)
		wantText(t, "BestCorner", hexList(got), want)
		if ok {
			found++
		}
		if t.Failed() {
			t.Fatalf("at rows %d, near %v: %v", n, near, r)
		}
	}
	if found < 1000 {
		t.Errorf("%d corners are too few", found)
	}
}

// pointsFor returns points to ask rows about: their plan, and others.
func pointsFor(r impl.Rows, n int) [][]float32 {
	plan, _, ok := impl.SolveRows(r, 64, 0x1p-20)
	points := [][]float32{make([]float32, r.Vars), r.Gains, repeat(int(r.Vars), float32(n%5)/10), repeat(int(r.Vars), num(bitsMinusZero))}
	if ok {
		points = append(points, plan)
	}
	if ray, ok := impl.RayOf(r, 64, 0x1p-20); ok {
		points = append(points, ray)
	}
	return points
}

func TestSumsAreThoseOfTheModel(t *testing.T) {
	for n, r := range manyRows(4000) {
		near := manyNears()[n/7%len(manyNears())]
		y := append(r.Bounds[1:len(r.Bounds):len(r.Bounds)], float32(n%9)/10)
		if _, prices, ok := impl.SolveRows(r, 64, 0x1p-20); ok && n%2 == 0 {
			y = prices
		}
		for _, x := range pointsFor(r, n) {
			checkSums(t, r, x, y, near)
		}
		checkPrices(t, r, y, near)
		if t.Failed() {
			t.Fatalf("at rows %d, near %v: %v", n, near, r)
		}
	}
}

func checkSums(t *testing.T, r impl.Rows, x, y []float32, near float32) {
	t.Helper()
	gain, left := modelDot(wide(r.Gains), wide(x)), modelLeft(r, wide(x))
	got, ok := impl.GainOf(r, x)
	wantBool(t, "GainOf", ok, finite(gain))
	if ok {
		wantText(t, "GainOf", hex(got), hex(float32(gain)))
	}
	list, ok := impl.LeftOf(r, x)
	wantBool(t, "LeftOf", ok, finite(left...))
	if ok {
		wantText(t, "LeftOf", hexList(list), hexWide(left))
	}
	wantBool(t, "IsPlan", impl.IsPlan(r, x, near), modelIsPlan(r, wide(x), float64(near)))
	isRay := finite(gain) && gain > float64(near)
	for i := range r.Bounds {
		sum := modelDot(wide(r.Numbers[i*len(x):(i+1)*len(x)]), wide(x))
		isRay = isRay && finite(sum) && sum <= float64(near)
	}
	for _, z := range x {
		isRay = isRay && z >= -near
	}
	wantBool(t, "IsRay", impl.IsRay(r, x, near), isRay)
	cost := modelDot(wide(r.Bounds), wide(y))
	gap, ok := impl.PriceGap(r, x, y)
	wantBool(t, "PriceGap", ok, finite(gain, cost, modelLess(cost, gain)))
	if ok {
		wantText(t, "PriceGap", hex(gap), hex(float32(modelLess(cost, gain))))
	}
}

func checkPrices(t *testing.T, r impl.Rows, y []float32, near float32) {
	t.Helper()
	want := true
	for _, z := range y {
		want = want && z >= -near
	}
	for k, gain := range r.Gains {
		sum := 0.0
		for i := range y {
			sum = modelAdd(sum, modelMul(float64(r.Numbers[i*len(r.Gains)+k]), float64(y[i])))
		}
		want = want && finite(sum) && sum >= modelLess(float64(gain), float64(near))
	}
	wantBool(t, "ArePrices", impl.ArePrices(r, y, near), want)
}

// TestScaledRowsAreThoseOfTheModel wants rows whose greatest number is 1.
func TestScaledRowsAreThoseOfTheModel(t *testing.T) {
	for n, r := range manyRows(3000) {
		var numbers, bounds []float64
		for i, bound := range r.Bounds {
			row := wide(r.Numbers[i*len(r.Gains) : (i+1)*len(r.Gains)])
			by := 0.0
			for _, x := range row {
				by = math.Max(by, math.Abs(x))
			}
			if by == 0 {
				by = 1
			}
			for _, x := range row {
				numbers = append(numbers, modelDiv(x, by))
			}
			bounds = append(bounds, modelDiv(float64(bound), by))
		}
		got, ok := impl.ScaleRows(r)
		wantBool(t, "ScaleRows", ok, finite(bounds...))
		if ok {
			wantText(t, "ScaleRows", hexList(got.Numbers), hexWide(numbers))
			wantText(t, "ScaleRows", hexList(got.Bounds), hexWide(bounds))
			wantBool(t, "ScaleRows", got.Vars == r.Vars && hexList(got.Gains) == hexList(r.Gains), true)
		}
		if t.Failed() {
			t.Fatalf("at rows %d: %v", n, r)
		}
	}
}
