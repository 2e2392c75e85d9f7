package tests

import (
	"fmt"
	"go/ast"
	"go/parser"
	"go/token"
	"math"
	"math/rand"
	"slices"
	"testing"

	"loop.example/g00344/impl"
)

const (
	mostWeights  = 12
	mostLabels   = 4
	mostSpeakers = 6
	mostArcs     = 20
)

func TestLimitsOfAlgebrasAreAsSaid(t *testing.T) {
	if impl.MaxWeights != mostWeights || impl.MaxLabels != mostLabels || impl.MaxSpeakers != mostSpeakers {
		t.Error(impl.MaxWeights, impl.MaxLabels, impl.MaxSpeakers)
	}
}

// algebraOf has as many weights as its first label tells of.
func algebraOf(rows ...[]int) impl.Algebra {
	return impl.Algebra{Weights: len(rows[0]), Apply: rows}
}

func sameAlgebra(a, b impl.Algebra) bool {
	return a.Weights == b.Weights && slices.EqualFunc(a.Apply, b.Apply, slices.Equal)
}

func isZeroAlgebra(a impl.Algebra) bool {
	return a.Weights == 0 && len(a.Apply) == 0
}

func arc(from, to, label int) impl.Arc {
	return impl.Arc{From: from, To: to, Label: label}
}

func goodAlgebraByWords(a impl.Algebra) bool {
	if a.Weights < 2 || a.Weights > mostWeights || len(a.Apply) < 1 || len(a.Apply) > mostLabels {
		return false
	}
	for _, row := range a.Apply {
		if len(row) != a.Weights {
			return false
		}
		for weight, made := range row {
			if made < 0 || made >= a.Weights || weight == a.Weights-1 && made != weight {
				return false
			}
		}
	}
	return true
}

func monotoneByWords(a impl.Algebra) bool {
	for _, row := range a.Apply {
		for weight, made := range row {
			if made < weight {
				return false
			}
		}
	}
	return true
}

// isotoneByWords holds each two weights against each other.
func isotoneByWords(a impl.Algebra) bool {
	for _, row := range a.Apply {
		for w := range row {
			for v := w; v < len(row); v++ {
				if row[w] > row[v] {
					return false
				}
			}
		}
	}
	return true
}

// grid has for each two speakers the label of the first arc from one to the other, and -1 where there is none.
type grid [mostSpeakers][mostSpeakers]int

func gridOf(arcs []impl.Arc) grid {
	var g grid
	for from := range g {
		for to := range g[from] {
			g[from][to] = -1
		}
	}
	for _, c := range slices.Backward(arcs) {
		g[c.From][c.To] = c.Label
	}
	return g
}

// weightByWords is asked of rows of unlike speakers.
func weightByWords(a impl.Algebra, g grid, path []int) (int, bool) {
	weight := 0
	for i := len(path) - 1; i > 0; i-- {
		label := g[path[i-1]][path[i]]
		if label < 0 {
			return 0, false
		}
		weight = a.Apply[label][weight]
	}
	return weight, true
}

// rowsTo has all rows of unlike speakers that end with this one.
func rowsTo(to int) [][]int {
	rows := [][]int{{to}}
	for i := 0; i < len(rows); i++ {
		for speaker := range mostSpeakers {
			if !slices.Contains(rows[i], speaker) {
				rows = append(rows, append([]int{speaker}, rows[i]...))
			}
		}
	}
	return rows
}

func allRowsOfSpeakers() [][][]int {
	var all [][][]int
	for to := range mostSpeakers {
		all = append(all, rowsTo(to))
	}
	return all
}

// pathsByWords looks at the weight of each row.
func pathsByWords(a impl.Algebra, g grid, rows [][]int) []int {
	best := slices.Repeat([]int{a.Weights - 1}, mostSpeakers)
	for _, row := range rows {
		if weight, ok := weightByWords(a, g, row); ok && weight < best[row[0]] {
			best[row[0]] = weight
		}
	}
	return best
}

// bestByWords goes the document's steps, with a list of those that are left.
func bestByWords(a impl.Algebra, g grid, to int) []int {
	weights := slices.Repeat([]int{a.Weights - 1}, mostSpeakers)
	weights[to] = 0
	left := []int{0, 1, 2, 3, 4, 5}
	for len(left) > 0 {
		place := 0
		for i, speaker := range left {
			if weights[speaker] < weights[left[place]] {
				place = i
			}
		}
		looked := left[place]
		left = slices.Delete(left, place, place+1)
		for _, from := range left {
			if label := g[from][looked]; label >= 0 && a.Apply[label][weights[looked]] < weights[from] {
				weights[from] = a.Apply[label][weights[looked]]
			}
		}
	}
	return weights
}

// lexByWords goes pair by pair.
func lexByWords(a, b impl.Algebra) impl.Algebra {
	n, m := a.Weights-1, b.Weights-1
	pairs := impl.Algebra{Weights: n*m + 1}
	for label := range a.Apply {
		row := slices.Repeat([]int{n * m}, n*m+1)
		for x := range n {
			for y := range m {
				if p, q := a.Apply[label][x], b.Apply[label][y]; p < n && q < m {
					row[x*m+y] = p*m + q
				}
			}
		}
		pairs.Apply = append(pairs.Apply, row)
	}
	return pairs
}

func mustAsk(t *testing.T, a impl.Algebra) (monotone, isotone bool) {
	t.Helper()
	monotone, ok := impl.IsMonotone(a)
	isotone, is := impl.IsIsotone(a)
	if !ok || !is {
		t.Fatalf("IsMonotone, IsIsotone of %v: %v, %v", a, ok, is)
	}
	return monotone, isotone
}

func lookAtWeight(t *testing.T, a impl.Algebra, arcs []impl.Arc, path []int, want int, wantOk bool) {
	t.Helper()
	if got, ok := impl.WeightOf(a, arcs, path); got != want || ok != wantOk {
		t.Errorf("WeightOf(%v, %v, %v) = %v, %v, not %v, %v", a, arcs, path, got, ok, want, wantOk)
	}
}

func lookAtBestTo(t *testing.T, a impl.Algebra, arcs []impl.Arc, to int, want ...int) {
	t.Helper()
	if got, ok := impl.BestTo(a, arcs, to); !slices.Equal(got, want) || !ok {
		t.Errorf("BestTo(%v, %v, %d) = %v, %v, not %v", a, arcs, to, got, ok, want)
	}
}

func lookAtPathsTo(t *testing.T, a impl.Algebra, arcs []impl.Arc, to int, want ...int) {
	t.Helper()
	if got, ok := impl.PathsTo(a, arcs, to); !slices.Equal(got, want) || !ok {
		t.Errorf("PathsTo(%v, %v, %d) = %v, %v, not %v", a, arcs, to, got, ok, want)
	}
}

func lookAtLex(t *testing.T, a, b, want impl.Algebra) {
	t.Helper()
	got, ok := impl.LexOf(a, b)
	if !sameAlgebra(got, want) || !ok || !impl.GoodAlgebra(got) {
		t.Errorf("LexOf(%v, %v) = %v, %v, not %v", a, b, got, ok, want)
	}
}

// smallRows has all that a label can make of so many weights.
func smallRows(weights int) [][]int {
	rows := [][]int{{}}
	for range weights - 1 {
		var longer [][]int
		for _, row := range rows {
			for made := range weights {
				longer = append(longer, append(slices.Clone(row), made))
			}
		}
		rows = longer
	}
	for i := range rows {
		rows[i] = append(rows[i], weights-1)
	}
	return rows
}

// smallAlgebras has all of so many weights and labels.
func smallAlgebras(weights, labels int) []impl.Algebra {
	all := []impl.Algebra{{Weights: weights}}
	for range labels {
		var more []impl.Algebra
		for _, a := range all {
			for _, row := range smallRows(weights) {
				more = append(more, impl.Algebra{Weights: weights, Apply: append(slices.Clone(a.Apply), row)})
			}
		}
		all = more
	}
	return all
}

// smallNets has all ways to lay arcs of so many labels between so many speakers, one at most from one to another.
func smallNets(speakers, labels int) [][]impl.Arc {
	nets := [][]impl.Arc{nil}
	for from := range speakers {
		for to := range speakers {
			for _, net := range slices.Clone(nets) {
				for label := range labels {
					if from != to {
						nets = append(nets, append(slices.Clone(net), arc(from, to, label)))
					}
				}
			}
		}
	}
	return nets
}

// mixedRow is of a kind: 0 neither better nor turned round, 1 not better, 2 not turned round, 3 anything.
func mixedRow(weights, kind int, r *rand.Rand) []int {
	row := make([]int, weights)
	for weight := range row {
		row[weight] = r.Intn(weights)
		if kind == 1 {
			row[weight] = weight + r.Intn(weights-weight)
		}
	}
	if kind == 0 || kind == 2 {
		slices.Sort(row)
	}
	for weight := range row {
		if kind == 0 {
			row[weight] = max(row[weight]*r.Intn(2), weight)
			if weight > 0 {
				row[weight] = max(row[weight], row[weight-1])
			}
		}
	}
	row[weights-1] = weights - 1
	return row
}

func mixedAlgebra(weights, labels, kind int, r *rand.Rand) impl.Algebra {
	a := impl.Algebra{Weights: weights}
	for range labels {
		a.Apply = append(a.Apply, mixedRow(weights, kind, r))
	}
	return a
}

// mixedArcs has several from one to the same other one, too.
func mixedArcs(many, speakers, labels int, r *rand.Rand) []impl.Arc {
	var arcs []impl.Arc
	for range many {
		p := r.Perm(speakers)
		arcs = append(arcs, arc(p[0], p[1], r.Intn(labels)))
	}
	return arcs
}

func mixedWays(kind int, r *rand.Rand) (impl.Algebra, []impl.Arc) {
	labels := 1 + r.Intn(mostLabels)
	a := mixedAlgebra(2+r.Intn(mostWeights-1), labels, kind, r)
	return a, mixedArcs(r.Intn(mostArcs+1), 2+r.Intn(mostSpeakers-1), labels, r)
}

func countTo(weights int) []int {
	var row []int
	for weight := range weights {
		row = append(row, weight)
	}
	return row
}

// hops makes each weight one worse.
func hops(weights int) []int {
	row := countTo(weights + 1)[1:]
	row[weights-1] = weights - 1
	return row
}

func goodAlgebras() []impl.Algebra {
	all := []impl.Algebra{algebraOf([]int{1, 1}), algebraOf([]int{0, 1}, []int{1, 1}, []int{0, 1}, []int{1, 1})}
	for weights := 2; weights <= mostWeights; weights++ {
		same, none := countTo(weights), slices.Repeat([]int{weights - 1}, weights)
		best := append(make([]int, weights-1), weights-1)
		all = append(all, algebraOf(same), algebraOf(none), algebraOf(best), algebraOf(same, none, best, hops(weights)))
	}
	r := rand.New(rand.NewSource(9))
	for i := range 80 {
		all = append(all, mixedAlgebra(2+r.Intn(mostWeights-1), 1+i%mostLabels, i/mostLabels%4, r))
	}
	return all
}

// badMakes has what is no weight of 12, whatever is cut off it, but for the first two: they are out of fewer weights only.
func badMakes() []int {
	return []int{3, 11, -1, mostWeights, mostWeights + 1, 256, 1 << 32, 1<<32 + 1, math.MinInt, math.MaxInt}
}

func badAlgebras() map[string]impl.Algebra {
	same, thirteen := []int{0, 1, 2}, mostWeights+1
	all := map[string]impl.Algebra{
		"nothing":                        {},
		"no labels":                      {Weights: 3},
		"no labels, not nil":             {Weights: 3, Apply: [][]int{}},
		"one label too many":             {Weights: 3, Apply: [][]int{same, same, same, same, same}},
		"far too many labels":            {Weights: 3, Apply: slices.Repeat([][]int{same}, 300)},
		"one weight":                     algebraOf([]int{0}),
		"no weight":                      algebraOf([]int{}),
		"no weight, but a row":           {Apply: [][]int{{0, 1}}},
		"one weight too many":            algebraOf(countTo(thirteen)),
		"far too many weights":           algebraOf(countTo(1000)),
		"Weights below 0":                {Weights: -1, Apply: [][]int{{0, 1}}},
		"Weights below 0, with no row":   {Weights: -1, Apply: [][]int{{}}},
		"the least Weights":              {Weights: math.MinInt, Apply: [][]int{same}},
		"the greatest Weights":           {Weights: math.MaxInt, Apply: [][]int{same}},
		"Weights that wrap round":        {Weights: 1<<32 + 3, Apply: [][]int{same}},
		"a weight too few":               {Weights: 3, Apply: [][]int{{0, 2}}},
		"a weight too few, its greatest": {Weights: 3, Apply: [][]int{{0, 1}}},
		"a weight too many":              {Weights: 3, Apply: [][]int{{0, 1, 2, 2}}},
		"a weight too many, a new one":   {Weights: 3, Apply: [][]int{{0, 1, 2, 3}}},
		"a label without weights":        {Weights: 3, Apply: [][]int{{}}},
		"a label that is nil":            {Weights: 3, Apply: [][]int{same, nil}},
		"the last label is too short":    {Weights: 3, Apply: [][]int{same, same, same, {0, 2}}},
		"the first label is too long":    {Weights: 3, Apply: [][]int{{0, 1, 2, 2}, same}},
		"labels of unlike lengths":       {Weights: 2, Apply: [][]int{{0, 1}, same}},
	}
	for _, made := range badMakes() {
		for place := range same {
			row := slices.Clone(same)
			row[place] = made
			all[fmt.Sprintf("%d made of %d", made, place)] = algebraOf(row)
			all[fmt.Sprintf("%d made of %d by the last label", made, place)] = algebraOf(same, same, same, row)
			all[fmt.Sprintf("%d made of %d by the middle label", made, place)] = algebraOf(same, row, same)
		}
	}
	for weights := 2; weights <= mostWeights; weights++ {
		for made := range weights - 1 {
			row := countTo(weights)
			row[weights-1] = made
			all[fmt.Sprintf("%d made of the greatest of %d", made, weights)] = algebraOf(row)
			all[fmt.Sprintf("%d made of the greatest of %d, by the second label", made, weights)] = algebraOf(countTo(weights), row)
		}
	}
	return all
}

func TestAlgebrasAreGoodByTheirWords(t *testing.T) {
	for _, a := range goodAlgebras() {
		if !impl.GoodAlgebra(a) || !goodAlgebraByWords(a) {
			t.Errorf("%v is not good", a)
		}
	}
	for name, a := range badAlgebras() {
		if impl.GoodAlgebra(a) || goodAlgebraByWords(a) {
			t.Errorf("%s: is good", name)
		}
	}
}

func TestGoodAlgebraOfAllSmallRows(t *testing.T) {
	rows := [][]int{{}}
	for i := 0; i < len(rows); i++ {
		for made := -1; made <= 3 && len(rows[i]) < 4; made++ {
			rows = append(rows, append(slices.Clone(rows[i]), made))
		}
	}
	good := 0
	for weights := -1; weights <= 5; weights++ {
		for _, row := range rows {
			one := impl.Algebra{Weights: weights, Apply: [][]int{row}}
			want := goodAlgebraByWords(one)
			for labels := range mostLabels + 2 {
				a := impl.Algebra{Weights: weights, Apply: slices.Repeat([][]int{row}, labels)}
				if got := impl.GoodAlgebra(a); got != (want && 1 <= labels && labels <= mostLabels) {
					t.Errorf("%v: %v", a, got)
				}
			}
			if want {
				good++
			}
		}
	}
	if good != 2+9+64 {
		t.Error(good)
	}
}

func lookAtKind(t *testing.T, a impl.Algebra, wantMonotone, wantIsotone bool) {
	t.Helper()
	if got, ok := impl.IsMonotone(a); got != wantMonotone || !ok {
		t.Errorf("IsMonotone(%v) = %v, %v", a, got, ok)
	}
	if got, ok := impl.IsIsotone(a); got != wantIsotone || !ok {
		t.Errorf("IsIsotone(%v) = %v, %v", a, got, ok)
	}
}

func TestKindsOfAlgebrasThatAreKnown(t *testing.T) {
	for name, c := range map[string]struct {
		a                 impl.Algebra
		monotone, isotone bool
	}{
		"hops":                                 {algebraOf(hops(5)), true, true},
		"what changes nothing":                 {algebraOf(countTo(mostWeights)), true, true},
		"what leaves no way":                   {algebraOf([]int{3, 3, 3, 3}), true, true},
		"two weights":                          {algebraOf([]int{0, 1}, []int{1, 1}), true, true},
		"all the best":                         {algebraOf([]int{0, 0, 0, 3}), false, true},
		"one better":                           {algebraOf([]int{0, 0, 1, 3}), false, true},
		"the last one below the greatest":      {algebraOf([]int{0, 1, 1, 3}), false, true},
		"the second one alone is better":       {algebraOf([]int{0, 0, 2, 3}), false, true},
		"turned round at the front":            {algebraOf([]int{2, 1, 2, 3}), true, false},
		"turned round at the greatest made":    {algebraOf([]int{0, 3, 2, 3}), true, false},
		"the best one is left without a way":   {algebraOf([]int{3, 1, 2, 3}), true, false},
		"turned round just below the greatest": {algebraOf([]int{1, 3, 2, 3}), true, false},
		"both wrong":                           {algebraOf([]int{2, 1, 0, 3}), false, false},
		"both wrong by one weight":             {algebraOf([]int{1, 0, 2, 3}), false, false},
		"the second label is better":           {algebraOf([]int{0, 1, 2}, []int{0, 0, 2}), false, true},
		"the second label turns round":         {algebraOf([]int{0, 1, 2}, []int{2, 1, 2}), true, false},
		"the last label is better":             {algebraOf([]int{0, 1, 2}, []int{1, 2, 2}, []int{2, 2, 2}, []int{0, 0, 2}), false, true},
		"the last label turns round":           {algebraOf([]int{0, 1, 2}, []int{1, 2, 2}, []int{2, 2, 2}, []int{2, 1, 2}), true, false},
		"one label each":                       {algebraOf([]int{0, 0, 2}, []int{2, 1, 2}), false, false},
		"labels are not held against others":   {algebraOf([]int{2, 2, 2}, []int{0, 1, 2}), true, true},
		"far apart":                            {algebraOf([]int{5, 5, 5, 5, 5, 4, 6}), false, false},
	} {
		t.Run(name, func(t *testing.T) { lookAtKind(t, c.a, c.monotone, c.isotone) })
	}
}

// TestKindsAtTheGreatestWeight: what is made of it is it, so it is neither better nor less than what is made of others.
func TestKindsAtTheGreatestWeight(t *testing.T) {
	for weights := 2; weights <= mostWeights; weights++ {
		top := weights - 1
		for place := range top {
			row := countTo(weights)
			row[place] = top
			lookAtKind(t, algebraOf(row), true, place == top-1)
			lookAtKind(t, algebraOf(countTo(weights), row), true, place == top-1)
			row = slices.Repeat([]int{top}, weights)
			row[place] = place
			lookAtKind(t, algebraOf(row), true, place == 0)
			if place > 0 {
				row = countTo(weights)
				row[place] = place - 1
				lookAtKind(t, algebraOf(row), false, true)
			}
		}
	}
}

func TestKindsGoByTheirWords(t *testing.T) {
	all := goodAlgebras()
	for weights := 2; weights <= 4; weights++ {
		all = append(all, smallAlgebras(weights, 1)...)
		all = append(all, smallAlgebras(weights, 2)...)
	}
	all = append(all, smallAlgebras(5, 1)...)
	r := rand.New(rand.NewSource(91))
	for i := range 4000 {
		all = append(all, mixedAlgebra(2+r.Intn(mostWeights-1), 1+r.Intn(mostLabels), i%4, r))
	}
	kinds := map[[2]bool]int{}
	for _, a := range all {
		want := [2]bool{monotoneByWords(a), isotoneByWords(a)}
		lookAtKind(t, a, want[0], want[1])
		kinds[want]++
	}
	for _, monotone := range []bool{false, true} {
		for _, isotone := range []bool{false, true} {
			if kinds[[2]bool{monotone, isotone}] < 200 {
				t.Error(kinds)
			}
		}
	}
}

// lookAtNet asks BestTo and PathsTo of these speakers, holds both against the document's words, and tells whether they are the same.
func lookAtNet(t *testing.T, a impl.Algebra, arcs []impl.Arc, rows [][][]int, speakers int) bool {
	t.Helper()
	g := gridOf(arcs)
	same := true
	for to := range speakers {
		best, bestOk := impl.BestTo(a, arcs, to)
		paths, pathsOk := impl.PathsTo(a, arcs, to)
		if !bestOk || !pathsOk {
			t.Fatalf("%v, %v to %d: %v, %v", a, arcs, to, bestOk, pathsOk)
		}
		if want := bestByWords(a, g, to); !slices.Equal(best, want) {
			t.Errorf("BestTo(%v, %v, %d) = %v, not %v", a, arcs, to, best, want)
		}
		if want := pathsByWords(a, g, rows[to]); !slices.Equal(paths, want) {
			t.Errorf("PathsTo(%v, %v, %d) = %v, not %v", a, arcs, to, paths, want)
		}
		same = same && slices.Equal(best, paths)
	}
	return same
}

// lookAtPromise is promise 9; it tells whether BestTo and PathsTo differ where nothing is promised.
func lookAtPromise(t *testing.T, a impl.Algebra, arcs []impl.Arc, rows [][][]int, speakers int) (monotone, isotone, differ bool) {
	t.Helper()
	monotone, isotone = mustAsk(t, a)
	differ = !lookAtNet(t, a, arcs, rows, speakers)
	if differ && monotone && isotone {
		t.Errorf("%v is monotone and isotone, but BestTo and PathsTo differ by %v", a, arcs)
	}
	return monotone, isotone, differ
}

func TestTheLeastFirstFindsTheBestOfAllPathsOfSmallOnes(t *testing.T) {
	rows := allRowsOfSpeakers()
	promised, differs := 0, 0
	for _, c := range []struct{ weights, labels, speakers int }{{2, 1, 3}, {2, 2, 3}, {3, 1, 3}, {3, 2, 3}, {4, 1, 3}, {5, 1, 3}, {2, 1, 4}, {3, 1, 4}} {
		nets := smallNets(c.speakers, c.labels)
		for _, a := range smallAlgebras(c.weights, c.labels) {
			for _, arcs := range nets {
				monotone, isotone, differ := lookAtPromise(t, a, arcs, rows, c.speakers)
				if monotone && isotone {
					promised++
				} else if differ {
					differs++
				}
			}
		}
	}
	if promised < 20000 || differs < 200 {
		t.Error(promised, differs)
	}
}

// TestTheLeastFirstFindsTheBestOfAllPathsOfFourSpeakers has all arcs of one label, and all labels to which the promise is given.
func TestTheLeastFirstFindsTheBestOfAllPathsOfFourSpeakers(t *testing.T) {
	rows := allRowsOfSpeakers()
	many := 0
	nets := smallNets(4, 1)
	for _, a := range smallAlgebras(4, 1) {
		if monotone, isotone := mustAsk(t, a); !monotone || !isotone {
			continue
		}
		many++
		for _, arcs := range nets {
			lookAtPromise(t, a, arcs, rows, 2)
		}
	}
	if many != 14 {
		t.Error(many)
	}
}

func TestTheLeastFirstFindsTheBestOfAllPathsOfGreaterOnes(t *testing.T) {
	rows := allRowsOfSpeakers()
	r := rand.New(rand.NewSource(92))
	promised, differs := 0, map[[2]bool]int{}
	for i := range 20000 {
		a, arcs := mixedWays(i%4, r)
		monotone, isotone, differ := lookAtPromise(t, a, arcs, rows, mostSpeakers)
		if monotone && isotone {
			promised++
		} else if differ {
			differs[[2]bool{monotone, isotone}]++
		}
	}
	if promised < 5000 || differs[[2]bool{true, false}] < 50 || differs[[2]bool{false, true}] < 50 || differs[[2]bool{false, false}] < 50 {
		t.Error(promised, differs)
	}
}

// TestFullNets has an arc between as many speakers as 20 allow.
func TestFullNets(t *testing.T) {
	rows := allRowsOfSpeakers()
	r := rand.New(rand.NewSource(93))
	for i := range 600 {
		var arcs []impl.Arc
		for from := range mostSpeakers {
			for to := range mostSpeakers {
				if from != to {
					arcs = append(arcs, arc(from, to, r.Intn(mostLabels)))
				}
			}
		}
		r.Shuffle(len(arcs), func(i, j int) { arcs[i], arcs[j] = arcs[j], arcs[i] })
		lookAtPromise(t, mixedAlgebra(mostWeights, mostLabels, i%4, r), arcs[:mostArcs], rows, mostSpeakers)
	}
}

func TestBestToAndPathsToDifferWhereLabelsTurnRound(t *testing.T) {
	a := algebraOf([]int{1, 2, 2, 3}, []int{0, 3, 2, 3})
	lookAtKind(t, a, true, false)
	arcs := []impl.Arc{arc(1, 0, 0), arc(2, 0, 0), arc(1, 2, 0), arc(3, 1, 1)}
	lookAtBestTo(t, a, arcs, 0, 0, 1, 1, 3, 3, 3)
	lookAtPathsTo(t, a, arcs, 0, 0, 1, 1, 2, 3, 3)
	lookAtWeight(t, a, arcs, []int{3, 1, 0}, 3, true)
	lookAtWeight(t, a, arcs, []int{3, 1, 2, 0}, 2, true)
}

func TestBestToAndPathsToDifferWhereLabelsMakeBetter(t *testing.T) {
	a := algebraOf([]int{1, 2, 2, 3}, []int{2, 2, 2, 3}, []int{0, 0, 0, 3})
	lookAtKind(t, a, false, true)
	arcs := []impl.Arc{arc(1, 0, 0), arc(2, 0, 1), arc(1, 2, 2)}
	lookAtBestTo(t, a, arcs, 0, 0, 1, 2, 3, 3, 3)
	lookAtPathsTo(t, a, arcs, 0, 0, 0, 2, 3, 3, 3)
}

func TestBestToAndPathsToDifferWhereLabelsDoBoth(t *testing.T) {
	a := algebraOf([]int{1, 0, 2}, []int{0, 1, 2})
	lookAtKind(t, a, false, false)
	arcs := []impl.Arc{arc(1, 0, 0), arc(2, 0, 0), arc(1, 2, 0)}
	lookAtBestTo(t, a, arcs, 0, 0, 1, 1, 2, 2, 2)
	lookAtPathsTo(t, a, arcs, 0, 0, 0, 1, 2, 2, 2)
}

// TestBestToStepByStep: what was looked at stays as it is, and of several that are as good the first one is looked at.
func TestBestToStepByStep(t *testing.T) {
	better := algebraOf([]int{1, 0, 2}, []int{0, 1, 2})
	for name, c := range map[string]struct {
		a    impl.Algebra
		arcs []impl.Arc
		to   int
		want []int
	}{
		"1 is looked at ahead of 2, which is as good": {better, []impl.Arc{arc(1, 0, 0), arc(2, 0, 0), arc(2, 1, 0), arc(1, 2, 0)}, 0, []int{0, 1, 0, 2, 2, 2}},
		"also where 2's arcs stand first":             {better, []impl.Arc{arc(1, 2, 0), arc(2, 1, 0), arc(2, 0, 0), arc(1, 0, 0)}, 0, []int{0, 1, 0, 2, 2, 2}},
		"0 is looked at ahead of 4, which is as good": {better, []impl.Arc{arc(4, 5, 0), arc(0, 5, 0), arc(0, 4, 0), arc(4, 0, 0)}, 5, []int{1, 2, 2, 2, 0, 0}},
		"a lesser number with a greater weight waits": {algebraOf([]int{1, 2, 3, 3}, []int{2, 0, 0, 3}), []impl.Arc{arc(1, 0, 1), arc(2, 0, 0), arc(1, 2, 1), arc(2, 1, 1)}, 0, []int{0, 0, 1, 3, 3, 3}},
		"what is made better goes on at once":         {better, []impl.Arc{arc(1, 0, 0), arc(3, 0, 0), arc(5, 1, 0), arc(3, 5, 0)}, 0, []int{0, 1, 2, 1, 2, 0}},
		"to itself nothing comes back":                {better, []impl.Arc{arc(1, 0, 1), arc(0, 1, 0), arc(2, 1, 0)}, 0, []int{0, 0, 1, 2, 2, 2}},
		"a worse weight does not come in":             {algebraOf([]int{0, 2, 2, 3}, []int{2, 2, 2, 3}), []impl.Arc{arc(1, 0, 0), arc(2, 0, 0), arc(2, 1, 1)}, 0, []int{0, 0, 0, 3, 3, 3}},
		"the last arc of all is looked at":            {algebraOf(hops(6)), []impl.Arc{arc(5, 4, 0), arc(4, 3, 0), arc(3, 2, 0), arc(2, 1, 0), arc(1, 0, 0)}, 0, []int{0, 1, 2, 3, 4, 5}},
		"no way does not become one":                  {algebraOf([]int{2, 0, 2}), []impl.Arc{arc(1, 0, 0), arc(2, 1, 0)}, 0, []int{0, 2, 2, 2, 2, 2}},
		"labels that are not isotone":                 {algebraOf([]int{1, 2, 3, 4, 5, 5}, []int{4, 5, 2, 3, 4, 5}, []int{3, 1, 2, 5, 5, 5}), []impl.Arc{arc(1, 0, 0), arc(2, 0, 2), arc(1, 2, 0), arc(3, 1, 1), arc(2, 1, 2), arc(4, 3, 0), arc(3, 0, 1)}, 0, []int{0, 1, 1, 4, 5, 5}},
	} {
		t.Run(name, func(t *testing.T) {
			lookAtBestTo(t, c.a, c.arcs, c.to, c.want...)
			if want := bestByWords(c.a, gridOf(c.arcs), c.to); !slices.Equal(c.want, want) {
				t.Errorf("%v by its words", want)
			}
		})
	}
}

func chainTo(last int) []impl.Arc {
	var arcs []impl.Arc
	for speaker := range last {
		arcs = append(arcs, arc(speaker, speaker+1, 0))
	}
	return arcs
}

func TestPathsToThatAreKnown(t *testing.T) {
	five := algebraOf(hops(5), []int{2, 3, 4, 4, 4})
	arcs := []impl.Arc{arc(1, 0, 0), arc(2, 1, 0), arc(2, 0, 1), arc(3, 2, 1)}
	both := func(a impl.Algebra, arcs []impl.Arc, to int, want ...int) {
		t.Helper()
		lookAtBestTo(t, a, arcs, to, want...)
		lookAtPathsTo(t, a, arcs, to, want...)
	}
	both(five, arcs, 0, 0, 1, 2, 4, 4, 4)
	both(five, arcs, 1, 4, 0, 1, 3, 4, 4)
	both(five, arcs, 2, 4, 4, 0, 2, 4, 4)
	both(five, arcs, 3, 4, 4, 4, 0, 4, 4)
	both(five, arcs, 5, 4, 4, 4, 4, 4, 0)
	both(algebraOf(hops(mostWeights)), chainTo(5), 5, 5, 4, 3, 2, 1, 0)
	both(algebraOf(hops(4)), chainTo(5), 5, 3, 3, 3, 2, 1, 0)
	widest := algebraOf([]int{1, 1, 2, 3, 4}, []int{2, 2, 2, 3, 4}, []int{3, 3, 3, 3, 4})
	both(widest, []impl.Arc{arc(1, 0, 2), arc(1, 2, 0), arc(2, 0, 1), arc(3, 1, 0)}, 0, 0, 2, 2, 2, 4, 4)
}

func TestOfNoArcsAndOfASpeakerToWhichNothingLeads(t *testing.T) {
	for _, a := range goodAlgebras() {
		for to := range mostSpeakers {
			want := slices.Repeat([]int{a.Weights - 1}, mostSpeakers)
			want[to] = 0
			var away []impl.Arc
			for other := range mostSpeakers {
				if other != to {
					away = append(away, arc(to, other, len(a.Apply)-1))
				}
			}
			for _, arcs := range [][]impl.Arc{nil, {}, away, {arc((to+1)%mostSpeakers, (to+2)%mostSpeakers, 0)}} {
				lookAtBestTo(t, a, arcs, to, want...)
				lookAtPathsTo(t, a, arcs, to, want...)
			}
		}
	}
}

func TestOfSeveralArcsTheFirstOneCounts(t *testing.T) {
	a := algebraOf([]int{1, 1, 2, 3}, []int{2, 2, 2, 3}, []int{0, 1, 2, 3}, []int{3, 3, 3, 3})
	for first := range mostLabels {
		for second := range mostLabels {
			for _, arcs := range [][]impl.Arc{
				{arc(4, 2, first), arc(4, 2, second)},
				{arc(4, 2, first), arc(2, 4, second), arc(4, 2, second), arc(4, 2, 2)},
				{arc(2, 4, second), arc(4, 2, first), arc(3, 2, 3), arc(4, 2, second)},
			} {
				want := []int{3, 3, 0, 3, a.Apply[first][0], 3}
				lookAtBestTo(t, a, arcs, 2, want...)
				lookAtPathsTo(t, a, arcs, 2, want...)
				lookAtWeight(t, a, arcs, []int{4, 2}, a.Apply[first][0], true)
			}
		}
	}
}

// TestArcsBehindTheFirstOneChangeNothing takes those out that lead as one ahead of them does, and mixes what is left.
func TestArcsBehindTheFirstOneChangeNothing(t *testing.T) {
	r := rand.New(rand.NewSource(94))
	fewer := 0
	for i := range 2000 {
		a, arcs := mixedWays(i%4, r)
		var firsts []impl.Arc
		for _, c := range arcs {
			if !slices.ContainsFunc(firsts, func(d impl.Arc) bool { return d.From == c.From && d.To == c.To }) {
				firsts = append(firsts, c)
			}
		}
		fewer += len(arcs) - len(firsts)
		r.Shuffle(len(firsts), func(i, j int) { firsts[i], firsts[j] = firsts[j], firsts[i] })
		for to := range mostSpeakers {
			best, _ := impl.BestTo(a, arcs, to)
			lookAtBestTo(t, a, firsts, to, best...)
			paths, _ := impl.PathsTo(a, arcs, to)
			lookAtPathsTo(t, a, firsts, to, paths...)
		}
	}
	if fewer < 2000 {
		t.Error(fewer)
	}
}

func TestTwentyArcsAndOneMore(t *testing.T) {
	a := algebraOf(hops(5))
	arcs := slices.Repeat([]impl.Arc{arc(1, 0, 0)}, mostArcs-1)
	for _, last := range []impl.Arc{arc(1, 0, 0), arc(2, 1, 0)} {
		twenty := append(slices.Clone(arcs), last)
		want := []int{0, 1, 4, 4, 4, 4}
		if last.From == 2 {
			want[2] = 2
			lookAtWeight(t, a, twenty, []int{2, 1, 0}, 2, true)
		}
		lookAtBestTo(t, a, twenty, 0, want...)
		lookAtPathsTo(t, a, twenty, 0, want...)
		lookAtWeight(t, a, twenty, []int{1, 0}, 1, true)
		refusesNet(t, "21 arcs", a, append(slices.Clone(twenty), last))
	}
	refusesNet(t, "far too many arcs", a, slices.Repeat(arcs, 100))
}

// refusesNet asks all functions that take arcs, with speakers and paths that are as said.
func refusesNet(t *testing.T, name string, a impl.Algebra, arcs []impl.Arc) {
	t.Helper()
	for to := range mostSpeakers {
		if got, ok := impl.BestTo(a, arcs, to); len(got) != 0 || ok {
			t.Errorf("%s: BestTo: %v, %v", name, got, ok)
		}
		if got, ok := impl.PathsTo(a, arcs, to); len(got) != 0 || ok {
			t.Errorf("%s: PathsTo: %v, %v", name, got, ok)
		}
		if got, ok := impl.WeightOf(a, arcs, []int{to}); got != 0 || ok {
			t.Errorf("%s: WeightOf %d alone: %v, %v", name, to, got, ok)
		}
		if got, ok := impl.WeightOf(a, arcs, []int{(to + 1) % mostSpeakers, to}); got != 0 || ok {
			t.Errorf("%s: WeightOf: %v, %v", name, got, ok)
		}
	}
}

func badSpeakers() []int {
	return []int{-1, -2, mostSpeakers, mostSpeakers + 1, 256, 1 << 32, 1<<32 + 2, math.MinInt, math.MaxInt}
}

func badArcs(labels int) []impl.Arc {
	var all []impl.Arc
	for speaker := range mostSpeakers {
		all = append(all, arc(speaker, speaker, 0), arc(speaker, speaker, labels-1))
	}
	for _, bad := range badSpeakers() {
		all = append(all, arc(bad, 0, 0), arc(0, bad, 0), arc(bad, bad, 0), arc(bad, 5, labels-1), arc(5, bad, labels-1))
	}
	for _, bad := range []int{-1, -2, labels, labels + 1, mostLabels, 256, 1 << 32, math.MinInt, math.MaxInt} {
		all = append(all, arc(1, 0, bad), arc(0, 5, bad))
	}
	return all
}

func TestArcsThatAreNotGoodAreRefused(t *testing.T) {
	chain := append(chainTo(5), arc(5, 0, 0), arc(1, 0, 0), arc(2, 1, 0))
	for labels := 1; labels <= mostLabels; labels++ {
		a := impl.Algebra{Weights: 5, Apply: slices.Repeat([][]int{hops(5)}, labels)}
		lookAtPathsTo(t, a, chain, 0, 0, 1, 2, 3, 2, 1)
		for _, bad := range badArcs(labels) {
			name := fmt.Sprintf("%d labels, %v", labels, bad)
			refusesNet(t, name+" alone", a, []impl.Arc{bad})
			refusesNet(t, name+" first", a, append([]impl.Arc{bad}, chain...))
			refusesNet(t, name+" last", a, append(slices.Clone(chain), bad))
			refusesNet(t, name+" as the twentieth", a, append(slices.Repeat(chain[:1], mostArcs-1), bad))
		}
	}
}

func TestASpeakerThatIsNone(t *testing.T) {
	for _, a := range []impl.Algebra{algebraOf([]int{0, 1}), algebraOf(hops(mostWeights))} {
		for _, arcs := range [][]impl.Arc{nil, chainTo(5)} {
			for _, to := range badSpeakers() {
				if got, ok := impl.BestTo(a, arcs, to); len(got) != 0 || ok {
					t.Errorf("BestTo %d: %v, %v", to, got, ok)
				}
				if got, ok := impl.PathsTo(a, arcs, to); len(got) != 0 || ok {
					t.Errorf("PathsTo %d: %v, %v", to, got, ok)
				}
			}
		}
	}
}

func TestWeightsOfPathsThatAreKnown(t *testing.T) {
	a := algebraOf([]int{1, 2, 3, 4, 5, 6, 7, 8, 8}, []int{3, 3, 2, 8, 0, 8, 6, 7, 8}, []int{8, 8, 8, 8, 8, 8, 8, 8, 8})
	round := append(chainTo(5), arc(5, 0, 0), arc(4, 0, 1), arc(3, 0, 2), arc(4, 0, 2), arc(5, 4, 1))
	for name, c := range map[string]struct {
		path []int
		want int
	}{
		"one speaker":                        {[]int{0}, 0},
		"one speaker, the last one":          {[]int{mostSpeakers - 1}, 0},
		"two":                                {[]int{1, 2}, 1},
		"all of them":                        {[]int{0, 1, 2, 3, 4, 5}, 5},
		"all of them, from another one on":   {[]int{3, 4, 5, 0, 1, 2}, 5},
		"the first of two arcs":              {[]int{4, 0}, 3},
		"no way at the end":                  {[]int{3, 0}, 8},
		"no way stays so":                    {[]int{1, 2, 3, 0}, 8},
		"no way at the beginning":            {[]int{3, 0, 1, 2}, 8},
		"from the last one back":             {[]int{5, 4, 0}, 8},
		"the other label first":              {[]int{5, 4, 0, 1}, 8},
		"no way made of a way":               {[]int{4, 0, 1, 2, 3}, 8},
		"the same labels in another order":   {[]int{3, 4, 0, 1}, 4},
		"the second label behind two others": {[]int{4, 0, 1, 2}, 2},
	} {
		t.Run(name, func(t *testing.T) { lookAtWeight(t, a, round, c.path, c.want, true) })
	}
	lookAtWeight(t, a, nil, []int{4}, 0, true)
	lookAtWeight(t, a, []impl.Arc{}, []int{4}, 0, true)
	lookAtWeight(t, algebraOf([]int{1, 1}), chainTo(5), []int{2, 3}, 1, true)
	lookAtWeight(t, algebraOf([]int{1, 1}), chainTo(5), []int{0, 1, 2, 3, 4, 5}, 1, true)
	lookAtWeight(t, algebraOf([]int{0, 1}), chainTo(5), []int{0, 1, 2, 3, 4, 5}, 0, true)
	turns := algebraOf([]int{2, 0, 1, 3}, []int{1, 2, 0, 3})
	lookAtWeight(t, turns, []impl.Arc{arc(0, 1, 0), arc(1, 2, 1)}, []int{0, 1, 2}, 0, true)
	lookAtWeight(t, turns, []impl.Arc{arc(0, 1, 0), arc(1, 2, 0)}, []int{0, 1, 2}, 1, true)
	lookAtWeight(t, turns, []impl.Arc{arc(0, 1, 1), arc(1, 2, 1)}, []int{0, 1, 2}, 2, true)
}

func TestPathsThatAreNone(t *testing.T) {
	a := algebraOf(hops(mostWeights))
	var arcs []impl.Arc
	for from := range 5 {
		for to := range 5 {
			if from != to {
				arcs = append(arcs, arc(from, to, 0))
			}
		}
	}
	chain := append(chainTo(5), arc(5, 0, 0))
	for name, c := range map[string]struct {
		arcs []impl.Arc
		path []int
	}{
		"none":                               {chain, nil},
		"none, not nil":                      {chain, []int{}},
		"none, and no arcs":                  {nil, nil},
		"one more than there are":            {chain, []int{0, 1, 2, 3, 4, 5, 6}},
		"one more, round to the first one":   {chain, []int{0, 1, 2, 3, 4, 5, 0}},
		"far too many":                       {arcs, slices.Repeat([]int{0, 1}, 500)},
		"the same one twice":                 {arcs, []int{3, 3}},
		"the same one at both ends":          {arcs, []int{1, 2, 1}},
		"the same one in the middle":         {arcs, []int{0, 1, 2, 1, 3}},
		"the first one again at the end":     {chain, []int{3, 4, 5, 0, 1, 3}},
		"an arc is missing":                  {arcs, []int{0, 5}},
		"the first arc is missing":           {arcs, []int{5, 0, 1}},
		"the last arc is missing":            {arcs, []int{0, 1, 5}},
		"an arc the other way round":         {chain, []int{1, 0}},
		"all the other way round":            {chain, []int{5, 4, 3, 2, 1, 0}},
		"an arc over another one":            {chain, []int{0, 2}},
		"no arcs":                            {nil, []int{0, 1}},
		"a path that is one of two":          {[]impl.Arc{arc(0, 1, 0), arc(2, 3, 0)}, []int{0, 1, 2, 3}},
		"a missing arc behind no way":        {[]impl.Arc{arc(1, 2, 0)}, []int{0, 1, 2}},
		"a missing arc ahead of the last":    {[]impl.Arc{arc(0, 1, 0)}, []int{0, 1, 2}},
		"six, of which the last comes again": {arcs, []int{0, 1, 2, 3, 4, 4}},
	} {
		t.Run(name, func(t *testing.T) { lookAtWeight(t, a, c.arcs, c.path, 0, false) })
	}
	for _, bad := range badSpeakers() {
		for _, path := range [][]int{{bad}, {bad, 0}, {0, bad}, {0, bad, 1}, {0, 1, 2, 3, 4, bad}, {bad, bad}} {
			lookAtWeight(t, a, chain, path, 0, false)
		}
	}
	none := algebraOf([]int{1, 1})
	lookAtWeight(t, none, []impl.Arc{arc(1, 2, 0)}, []int{0, 1, 2}, 0, false)
}

// TestWeightOfGoesByItsWords asks of all rows of small numbers, and of all that PathsTo has to look at.
func TestWeightOfGoesByItsWords(t *testing.T) {
	rows := allRowsOfSpeakers()
	r := rand.New(rand.NewSource(95))
	for i := range 120 {
		a, arcs := mixedWays(i%4, r)
		g := gridOf(arcs)
		for to := range mostSpeakers {
			best := slices.Repeat([]int{a.Weights - 1}, mostSpeakers)
			for _, row := range rows[to] {
				want, wantOk := weightByWords(a, g, row)
				lookAtWeight(t, a, arcs, row, want, wantOk)
				if wantOk {
					best[row[0]] = min(best[row[0]], want)
				}
			}
			lookAtPathsTo(t, a, arcs, to, best...)
		}
		for _, row := range allPaths(4, -1, 0, 1, 2, 6) {
			unlike := len(row) > 0
			for i, speaker := range row {
				unlike = unlike && 0 <= speaker && speaker < mostSpeakers && !slices.Contains(row[:i], speaker)
			}
			if !unlike {
				lookAtWeight(t, a, arcs, row, 0, false)
			}
		}
	}
}

func TestPairsOfMonotoneOnesAreMonotone(t *testing.T) {
	many := 0
	for p := 2; p <= 5; p++ {
		for q := 2; q <= 5; q++ {
			for labels := 1; labels <= 2 && (labels == 1 || p < 4 && q < 4); labels++ {
				for _, a := range smallAlgebras(p, labels) {
					if !monotoneByWords(a) || (p-1)*(q-1)+1 > mostWeights {
						continue
					}
					for _, b := range smallAlgebras(q, labels) {
						if monotoneByWords(b) {
							many++
							lookAtPairs(t, a, b)
						}
					}
				}
			}
		}
	}
	if many < 3000 {
		t.Error(many)
	}
}

func lookAtPairs(t *testing.T, a, b impl.Algebra) {
	t.Helper()
	lookAtLex(t, a, b, lexByWords(a, b))
	pairs, _ := impl.LexOf(a, b)
	if monotone, ok := impl.IsMonotone(pairs); !monotone || !ok {
		t.Errorf("LexOf(%v, %v) = %v is not monotone: %v", a, b, pairs, ok)
	}
}

// fittingWeights has all numbers of weights whose pairs are not too many.
func fittingWeights() [][2]int {
	var all [][2]int
	for p := 2; p <= mostWeights; p++ {
		for q := 2; q <= mostWeights; q++ {
			if (p-1)*(q-1)+1 <= mostWeights {
				all = append(all, [2]int{p, q})
			}
		}
	}
	return all
}

func TestPairsOfGreaterMonotoneOnesAreMonotone(t *testing.T) {
	r := rand.New(rand.NewSource(96))
	for _, both := range fittingWeights() {
		for labels := 1; labels <= mostLabels; labels++ {
			for kind := range 4 {
				for range 10 {
					lookAtPairs(t, mixedAlgebra(both[0], labels, kind&1, r), mixedAlgebra(both[1], labels, kind>>1, r))
				}
			}
		}
	}
}

// TestPairsWithOneThatMakesBetter: without the promise's condition there are such that are not monotone.
func TestPairsWithOneThatMakesBetter(t *testing.T) {
	same, better := algebraOf([]int{0, 1, 2}), algebraOf([]int{0, 0, 2})
	for _, c := range [][2]impl.Algebra{{same, better}, {better, same}, {better, better}} {
		pairs, ok := impl.LexOf(c[0], c[1])
		if !ok {
			t.Fatal(c)
		}
		lookAtKind(t, pairs, false, isotoneByWords(pairs))
	}
	worse, _ := impl.LexOf(algebraOf(hops(3)), better)
	lookAtKind(t, worse, true, true)
}

func TestPairsGoByTheirWords(t *testing.T) {
	r := rand.New(rand.NewSource(97))
	for _, both := range fittingWeights() {
		for labels := 1; labels <= mostLabels; labels++ {
			for kind := range 16 {
				a, b := mixedAlgebra(both[0], labels, kind&3, r), mixedAlgebra(both[1], labels, kind>>2, r)
				lookAtLex(t, a, b, lexByWords(a, b))
			}
		}
	}
	for _, a := range smallAlgebras(3, 2) {
		for _, b := range append(smallAlgebras(2, 2), smallAlgebras(3, 2)...) {
			lookAtLex(t, a, b, lexByWords(a, b))
			lookAtLex(t, b, a, lexByWords(b, a))
		}
	}
}

func TestPairsThatAreKnown(t *testing.T) {
	for name, c := range map[string]struct{ a, b, want impl.Algebra }{
		"the fewest weights": {
			algebraOf([]int{0, 1}, []int{1, 1}, []int{0, 1}, []int{1, 1}), algebraOf([]int{0, 1}, []int{0, 1}, []int{1, 1}, []int{1, 1}),
			algebraOf([]int{0, 1}, []int{1, 1}, []int{1, 1}, []int{1, 1}),
		},
		"hops, and the best of the other": {algebraOf(hops(3)), algebraOf([]int{0, 0, 2}), algebraOf([]int{2, 2, 4, 4, 4})},
		"a's weight first":                {algebraOf([]int{1, 0, 2}), algebraOf([]int{0, 1, 2, 3}), algebraOf([]int{3, 4, 5, 0, 1, 2, 6})},
		"b's weight behind":               {algebraOf([]int{0, 1, 2}), algebraOf([]int{2, 0, 1, 3}), algebraOf([]int{2, 0, 1, 5, 3, 4, 6})},
		"a comes to its greatest":         {algebraOf([]int{0, 2, 2}), algebraOf([]int{0, 1, 2}), algebraOf([]int{0, 1, 4, 4, 4})},
		"b comes to its greatest":         {algebraOf([]int{0, 1, 2}), algebraOf([]int{0, 2, 2}), algebraOf([]int{0, 4, 2, 4, 4})},
		"both come to their greatest":     {algebraOf([]int{0, 2, 2}), algebraOf([]int{0, 2, 2}), algebraOf([]int{0, 4, 4, 4, 4})},
		"a's all come to it":              {algebraOf([]int{2, 2, 2}), algebraOf([]int{0, 0, 2}), algebraOf([]int{4, 4, 4, 4, 4})},
		"unlike numbers of weights":       {algebraOf([]int{1, 2, 3, 3}), algebraOf([]int{1, 0, 2}), algebraOf([]int{3, 2, 5, 4, 6, 6, 6})},
		"the other way round":             {algebraOf([]int{1, 0, 2}), algebraOf([]int{1, 2, 3, 3}), algebraOf([]int{4, 5, 6, 1, 2, 6, 6})},
	} {
		t.Run(name, func(t *testing.T) {
			lookAtLex(t, c.a, c.b, c.want)
			if want := lexByWords(c.a, c.b); !sameAlgebra(c.want, want) {
				t.Errorf("%v by its words", want)
			}
		})
	}
}

func refusesLex(t *testing.T, name string, a, b impl.Algebra) {
	t.Helper()
	if got, ok := impl.LexOf(a, b); !isZeroAlgebra(got) || ok {
		t.Errorf("%s: LexOf(%v, %v) = %v, %v", name, a, b, got, ok)
	}
}

func TestPairsOfTwelveWeightsAndOfMore(t *testing.T) {
	for p := 2; p <= mostWeights; p++ {
		for q := 2; q <= mostWeights; q++ {
			a, b := algebraOf(hops(p), countTo(p)), algebraOf(countTo(q), hops(q))
			if (p-1)*(q-1)+1 > mostWeights {
				refusesLex(t, "too many weights", a, b)
			} else {
				lookAtLex(t, a, b, lexByWords(a, b))
			}
		}
	}
	lookAtLex(t, algebraOf(hops(mostWeights)), algebraOf([]int{0, 1}), algebraOf(hops(mostWeights)))
	lookAtLex(t, algebraOf([]int{0, 1}), algebraOf(hops(mostWeights)), algebraOf(hops(mostWeights)))
	refusesLex(t, "13 weights", algebraOf(hops(4)), algebraOf(hops(5)))
	refusesLex(t, "13 weights", algebraOf(hops(7)), algebraOf(hops(3)))
}

func TestPairsOfOtherNumbersOfLabels(t *testing.T) {
	for p := 1; p <= mostLabels; p++ {
		for q := 1; q <= mostLabels; q++ {
			a := impl.Algebra{Weights: 3, Apply: slices.Repeat([][]int{{1, 2, 2}}, p)}
			b := impl.Algebra{Weights: 4, Apply: slices.Repeat([][]int{{0, 2, 3, 3}}, q)}
			if p == q {
				lookAtLex(t, a, b, impl.Algebra{Weights: 7, Apply: slices.Repeat([][]int{{3, 5, 6, 6, 6, 6, 6}}, p)})
			} else {
				refusesLex(t, "unlike labels", a, b)
			}
		}
	}
}

// TestPairsOfThreeStandInEitherOrderOfJoining: the pair's number is the same whichever two are joined first.
func TestPairsOfThreeStandInEitherOrderOfJoining(t *testing.T) {
	r := rand.New(rand.NewSource(98))
	for i := range 500 {
		labels := 1 + r.Intn(mostLabels)
		a, b, c := mixedAlgebra(3, labels, i%4, r), mixedAlgebra(2+r.Intn(2), labels, i/4%4, r), mixedAlgebra(2+r.Intn(2), labels, i/16%4, r)
		ab, _ := impl.LexOf(a, b)
		bc, _ := impl.LexOf(b, c)
		want, ok := impl.LexOf(a, bc)
		if !ok {
			t.Fatal(a, b, c)
		}
		lookAtLex(t, ab, c, want)
	}
}

// TestWeightOfPairsIsThePairOfWeights goes along paths, where one that comes to its greatest stays there.
func TestWeightOfPairsIsThePairOfWeights(t *testing.T) {
	r := rand.New(rand.NewSource(99))
	rows := allRowsOfSpeakers()
	ways := 0
	for i := range 60 {
		labels := 1 + r.Intn(mostLabels)
		a, b := mixedAlgebra(4, labels, i%4, r), mixedAlgebra(4, labels, i/4%4, r)
		pairs, _ := impl.LexOf(a, b)
		arcs := mixedArcs(mostArcs, mostSpeakers, labels, r)
		for _, row := range rows[i%mostSpeakers] {
			x, ok := impl.WeightOf(a, arcs, row)
			y, _ := impl.WeightOf(b, arcs, row)
			want := 0
			if ok && (x == 3 || y == 3) {
				want = 9
			} else if ok {
				want = x*3 + y
				ways++
			}
			lookAtWeight(t, pairs, arcs, row, want, ok)
		}
	}
	if ways < 300 {
		t.Error(ways)
	}
}

func TestAlgebrasThatAreNotGoodAreRefused(t *testing.T) {
	for name, a := range badAlgebras() {
		if got, ok := impl.IsMonotone(a); got || ok {
			t.Errorf("%s: IsMonotone: %v, %v", name, got, ok)
		}
		if got, ok := impl.IsIsotone(a); got || ok {
			t.Errorf("%s: IsIsotone: %v, %v", name, got, ok)
		}
		refusesNet(t, name, a, nil)
		refusesNet(t, name, a, chainTo(5))
		refusesLex(t, name, a, a)
		for labels := 1; labels <= mostLabels; labels++ {
			good := impl.Algebra{Weights: 2, Apply: slices.Repeat([][]int{{0, 1}}, labels)}
			refusesLex(t, name, a, good)
			refusesLex(t, name, good, a)
		}
		for _, to := range badSpeakers() {
			if got, ok := impl.BestTo(a, badArcs(1), to); len(got) != 0 || ok {
				t.Errorf("%s: BestTo %d: %v, %v", name, to, got, ok)
			}
			if got, ok := impl.PathsTo(a, badArcs(1), to); len(got) != 0 || ok {
				t.Errorf("%s: PathsTo %d: %v, %v", name, to, got, ok)
			}
			lookAtWeight(t, a, chainTo(5), []int{to}, 0, false)
		}
		lookAtWeight(t, a, chainTo(5), nil, 0, false)
	}
}

func algebraWithBehind(a impl.Algebra, row []int) impl.Algebra {
	own := slices.Clone(a.Apply)
	for i := range own {
		own[i] = withBehind(own[i], behindNumber)
	}
	return impl.Algebra{Weights: a.Weights, Apply: withBehind(own, row)}
}

func wholeAlgebra(a impl.Algebra) impl.Algebra {
	own := whole(a.Apply)
	for i := range own {
		own[i] = whole(own[i])
	}
	return impl.Algebra{Weights: a.Weights, Apply: own}
}

func overwriteAlgebra(a impl.Algebra) {
	for _, row := range a.Apply {
		overwrite(row, -9)
	}
	overwrite(a.Apply, []int{-9})
}

func handsOutAlgebraBehind(a impl.Algebra) bool {
	return slices.ContainsFunc(wholeAlgebra(a).Apply, func(row []int) bool { return slices.Contains(row, behindNumber) })
}

// lookAtAlgebraMemory hands all in with memory behind it, and writes into all that is answered.
func lookAtAlgebraMemory(t *testing.T, a, b impl.Algebra, arcs []impl.Arc, path []int, to int) {
	t.Helper()
	givenA, givenB := algebraWithBehind(a, []int{behindNumber}), algebraWithBehind(b, []int{behindNumber})
	givenArcs, givenPath := withBehind(arcs, arc(-7, 99, behindNumber)), withBehind(path, behindNumber)
	keptA, keptB, keptArcs, keptPath := wholeAlgebra(givenA), wholeAlgebra(givenB), whole(givenArcs), whole(givenPath)
	same := impl.GoodAlgebra(givenA) == impl.GoodAlgebra(a)
	monotone, ok := impl.IsMonotone(givenA)
	wantMonotone, wantOk := impl.IsMonotone(a)
	same = same && monotone == wantMonotone && ok == wantOk
	isotone, ok := impl.IsIsotone(givenA)
	wantIsotone, wantOk := impl.IsIsotone(a)
	same = same && isotone == wantIsotone && ok == wantOk
	weight, ok := impl.WeightOf(givenA, givenArcs, givenPath)
	wantWeight, wantOk := impl.WeightOf(a, arcs, path)
	if !same || weight != wantWeight || ok != wantOk {
		t.Errorf("%v, %v, %v: what lies behind is read", a, arcs, path)
	}
	for name, f := range map[string]func(impl.Algebra, []impl.Arc, int) ([]int, bool){"BestTo": impl.BestTo, "PathsTo": impl.PathsTo} {
		got, ok := f(givenA, givenArcs, to)
		want, wantOk := f(a, arcs, to)
		if !slices.Equal(got, want) || ok != wantOk || slices.Contains(whole(got), behindNumber) {
			t.Errorf("%s(%v, %v, %d) = %v, %v, not %v, %v", name, a, arcs, to, whole(got), ok, want, wantOk)
		}
		overwrite(got, -9)
	}
	pairs, ok := impl.LexOf(givenA, givenB)
	if want, wantOk := impl.LexOf(a, b); !sameAlgebra(pairs, want) || ok != wantOk || handsOutAlgebraBehind(pairs) {
		t.Errorf("LexOf(%v, %v) = %v, %v", a, b, wholeAlgebra(pairs), ok)
	}
	overwriteAlgebra(pairs)
	if !sameAlgebra(wholeAlgebra(givenA), keptA) || !sameAlgebra(wholeAlgebra(givenB), keptB) {
		t.Errorf("%v, %v became %v, %v", keptA, keptB, wholeAlgebra(givenA), wholeAlgebra(givenB))
	}
	if !slices.Equal(whole(givenArcs), keptArcs) || !slices.Equal(whole(givenPath), keptPath) {
		t.Errorf("%v, %v became %v, %v", keptArcs, keptPath, whole(givenArcs), whole(givenPath))
	}
}

func TestAlgebrasAreNotWrittenIntoNorShared(t *testing.T) {
	r := rand.New(rand.NewSource(100))
	rows := allRowsOfSpeakers()
	for i, both := range fittingWeights() {
		for kind := range 16 {
			labels := 1 + r.Intn(mostLabels)
			a, b := mixedAlgebra(both[0], labels, kind&3, r), mixedAlgebra(both[1], labels, kind>>2, r)
			to := i % mostSpeakers
			path := rows[to][r.Intn(len(rows[to]))]
			lookAtAlgebraMemory(t, a, b, mixedArcs(r.Intn(mostArcs+1), mostSpeakers, labels, r), path, to)
		}
	}
	chain := chainTo(5)
	for _, bad := range badAlgebras() {
		lookAtAlgebraMemory(t, bad, bad, chain, []int{0, 1, 2}, 3)
		lookAtAlgebraMemory(t, algebraOf(hops(3)), bad, chain, []int{0, 1, 2}, -1)
		lookAtAlgebraMemory(t, bad, algebraOf(hops(3)), chain, nil, 3)
	}
	for _, bad := range badArcs(1) {
		lookAtAlgebraMemory(t, algebraOf(hops(3)), algebraOf(hops(3)), append(slices.Clone(chain), bad), []int{0, 1}, 5)
	}
	for _, path := range [][]int{nil, {-1}, {0, 0}, {1, 0}, {0, 1, 2, 3, 4, 5, 6}} {
		lookAtAlgebraMemory(t, algebraOf(hops(12)), algebraOf(hops(12)), chain, path, 5)
	}
}

// TestWhatLiesBehindIsNotReadAlsoWhereItIsGood cuts lists short whose rest would be as good.
func TestWhatLiesBehindIsNotReadAlsoWhereItIsGood(t *testing.T) {
	long := [][]int{{1, 2, 3, 3}, {0, 1, 2, 3}, {2, 1, 0, 3}, {3, 3, 3, 3}}
	one := impl.Algebra{Weights: 4, Apply: long[:1]}
	lookAtKind(t, one, true, true)
	chain := chainTo(5)
	lookAtBestTo(t, one, chain[:2], 2, 2, 1, 0, 3, 3, 3)
	lookAtPathsTo(t, one, chain[:2], 2, 2, 1, 0, 3, 3, 3)
	lookAtBestTo(t, one, chain[:0], 1, 3, 0, 3, 3, 3, 3)
	lookAtWeight(t, one, chain[:2], []int{0, 1, 2}, 2, true)
	lookAtWeight(t, one, chain[:1], []int{0, 1, 2}, 0, false)
	lookAtWeight(t, one, chain, []int{0, 1, 2, 3}[:2], 1, true)
	lookAtWeight(t, one, chain, []int{0, 1, 2, 3}[:0], 0, false)
	refusesNet(t, "a label behind", one, []impl.Arc{arc(0, 1, 1)})
	lookAtLex(t, one, algebraOf([]int{0, 1}), one)
	refusesLex(t, "a label behind", one, algebraOf([]int{0, 1}, []int{0, 1}))
	if impl.GoodAlgebra(impl.Algebra{Weights: 4, Apply: long[:0]}) || impl.GoodAlgebra(algebraOf([]int{0, 1, 2, 3}[:1])) {
		t.Error("no labels, or one weight alone, are good")
	}
	if impl.GoodAlgebra(impl.Algebra{Weights: 4, Apply: [][]int{[]int{0, 1, 2, 3}[:3]}}) {
		t.Error("a weight is read behind a label's length")
	}
}

// TestListsOfOneAnswerOfAlgebrasShareNoMemory hands in labels of one memory, writes into one list of an answer and looks at the others.
func TestListsOfOneAnswerOfAlgebrasShareNoMemory(t *testing.T) {
	row := []int{1, 2, 3, 3}
	like := impl.Algebra{Weights: 4, Apply: [][]int{row, row, row, row}}
	want := lexByWords(like, like).Apply[0]
	pairs, ok := impl.LexOf(like, like)
	again, _ := impl.LexOf(like, like)
	if !ok || len(pairs.Apply) != mostLabels {
		t.Fatal(pairs, ok)
	}
	for i := range pairs.Apply {
		overwrite(pairs.Apply[i], -9)
		for _, behind := range pairs.Apply[i+1:] {
			if !slices.Equal(behind, want) {
				t.Fatalf("writing into label %d makes another one %v", i, behind)
			}
		}
	}
	overwrite(pairs.Apply, nil)
	if !slices.Equal(row, []int{1, 2, 3, 3}) || !sameAlgebra(again, lexByWords(like, like)) {
		t.Error(row, again)
	}
}

func TestTwoAnswersOfAlgebrasShareNoMemory(t *testing.T) {
	a, arcs := algebraOf(hops(4)), chainTo(5)
	for name, f := range map[string]func(impl.Algebra, []impl.Arc, int) ([]int, bool){"BestTo": impl.BestTo, "PathsTo": impl.PathsTo} {
		first, _ := f(a, arcs, 2)
		second, _ := f(a, arcs, 2)
		overwrite(first, -9)
		third, _ := f(a, arcs, 2)
		if want := []int{2, 1, 0, 3, 3, 3}; !slices.Equal(second, want) || !slices.Equal(third, want) {
			t.Errorf("%s: %v, %v", name, second, third)
		}
	}
}

func TestLabelsAreClosuresInAGenericList(t *testing.T) {
	parsed, err := parser.ParseFile(token.NewFileSet(), "../impl/l9_algebra.go", nil, parser.SkipObjectResolution)
	if err != nil {
		t.Fatal(err)
	}
	lists, closures := 0, 0
	ast.Inspect(parsed, func(n ast.Node) bool {
		switch x := n.(type) {
		case *ast.TypeSpec:
			if x.TypeParams != nil {
				lists++
			}
		case *ast.FuncLit:
			closures++
		}
		return true
	})
	if lists == 0 || closures == 0 {
		t.Error(lists, closures)
	}
}
