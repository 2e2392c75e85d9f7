package tests

import (
	"fmt"
	"go/ast"
	"go/parser"
	"go/token"
	"math"
	"math/rand"
	"slices"
	"strings"
	"testing"

	"loop.example/g00344/impl"
)

const (
	mostSppNodes = 5
	mostRanked   = 6
	mostRounds   = 40
)

func TestLimitsOfProblemsAreAsSaid(t *testing.T) {
	if impl.MaxRanked != mostRanked || impl.MaxRounds != mostRounds || impl.MaxSpeakers-1 != mostSppNodes {
		t.Error(impl.MaxRanked, impl.MaxRounds, impl.MaxSpeakers)
	}
}

func digits(text string) []int {
	var path []int
	for _, c := range text {
		path = append(path, int(c-'0'))
	}
	return path
}

// sppOf has for each node its paths, a digit a node, with a blank between.
func sppOf(nodes ...string) impl.Spp {
	s := impl.Spp{Ranked: make([][][]int, len(nodes))}
	for i, paths := range nodes {
		for _, path := range strings.Fields(paths) {
			s.Ranked[i] = append(s.Ranked[i], digits(path))
		}
	}
	return s
}

func pathText(path []int) string {
	text := ""
	for _, node := range path {
		text += string(rune('0' + node))
	}
	return text
}

// pathTexts is asked of good problems alone.
func pathTexts(s impl.Spp) [][]string {
	texts := make([][]string, len(s.Ranked))
	for i, paths := range s.Ranked {
		for _, path := range paths {
			texts[i] = append(texts[i], pathText(path))
		}
	}
	return texts
}

func sameSpp(a, b impl.Spp) bool {
	return slices.EqualFunc(a.Ranked, b.Ranked, func(l, m [][]int) bool { return slices.EqualFunc(l, m, slices.Equal) })
}

func sameChoices(a, b [][]int) bool {
	return slices.EqualFunc(a, b, slices.Equal)
}

func wayByWords(nodes, node int, path []int) bool {
	if len(path) < 2 || path[0] != node {
		return false
	}
	times := map[int]int{}
	for _, at := range path {
		times[at]++
		if at < 0 || at > nodes || times[at] > 1 {
			return false
		}
	}
	return path[len(path)-1] == 0
}

func goodSppByWords(s impl.Spp) bool {
	nodes := len(s.Ranked)
	if nodes < 1 || nodes > mostSppNodes {
		return false
	}
	for i, paths := range s.Ranked {
		if len(paths) > mostRanked {
			return false
		}
		for k, path := range paths {
			like := func(other []int) bool { return slices.Equal(other, path) }
			if !wayByWords(nodes, i+1, path) || slices.ContainsFunc(paths[:k], like) {
				return false
			}
			behind := func(other []int) bool { return slices.Equal(other, path[1:]) }
			if len(path) > 2 && !slices.ContainsFunc(s.Ranked[path[1]-1], behind) {
				return false
			}
		}
	}
	return true
}

// The models below go by texts: what a node has chosen is a path's text, or the empty one.

func heldBy(texts [][]string, chosen []int) []string {
	held := make([]string, len(texts))
	for i, number := range chosen {
		if number >= 0 {
			held[i] = texts[i][number]
		}
	}
	return held
}

func bestForByWords(texts [][]string, chosen []int, node int) int {
	held := heldBy(texts, chosen)
	for number, path := range texts[node-1] {
		if len(path) == 2 || held[path[1]-'1'] == path[1:] {
			return number
		}
	}
	return -1
}

func isStableByWords(texts [][]string, chosen []int) bool {
	for i := range texts {
		if bestForByWords(texts, chosen, i+1) != chosen[i] {
			return false
		}
	}
	return true
}

// allChosen has all that can be chosen, in the order of StableOnes.
func allChosen(texts [][]string) [][]int {
	all := [][]int{{}}
	for _, paths := range texts {
		var longer [][]int
		for _, chosen := range all {
			for number := -1; number < len(paths); number++ {
				longer = append(longer, append(slices.Clone(chosen), number))
			}
		}
		all = longer
	}
	return all
}

func stableOnesByWords(texts [][]string) [][]int {
	var stable [][]int
	for _, chosen := range allChosen(texts) {
		if isStableByWords(texts, chosen) {
			stable = append(stable, chosen)
		}
	}
	return stable
}

func none(nodes int) []int {
	return slices.Repeat([]int{-1}, nodes)
}

func playByWords(texts [][]string, chosen []int, l []int) []int {
	own := slices.Clone(chosen)
	for _, node := range l {
		own[node-1] = bestForByWords(texts, own, node)
	}
	return own
}

func inTurn(nodes int) []int {
	return []int{1, 2, 3, 4, 5}[:nodes]
}

// settleByWords goes on for as many rounds as one likes.
func settleByWords(texts [][]string, rounds int) ([]int, int, bool) {
	chosen, changed := none(len(texts)), 0
	for range rounds {
		next := playByWords(texts, chosen, inTurn(len(texts)))
		if slices.Equal(next, chosen) {
			break
		}
		chosen = next
		changed++
	}
	if !isStableByWords(texts, chosen) {
		return nil, 0, false
	}
	return chosen, changed, true
}

type spoke struct {
	node   int
	number int
}

// leadsRound tells whether the first pair leads to the second one.
func leadsRound(texts [][]string, a, b spoke) bool {
	if a.node == b.node {
		return false
	}
	for _, path := range texts[a.node-1][:a.number+1] {
		if strings.HasSuffix(path, texts[b.node-1][b.number]) {
			return true
		}
	}
	return false
}

// hasWheelByWords works out which pair can be come to from which.
func hasWheelByWords(texts [][]string) bool {
	var pairs []spoke
	for i, paths := range texts {
		for number := range paths {
			pairs = append(pairs, spoke{i + 1, number})
		}
	}
	comes := make([][]bool, len(pairs))
	for i, a := range pairs {
		comes[i] = make([]bool, len(pairs))
		for k, b := range pairs {
			comes[i][k] = leadsRound(texts, a, b)
		}
	}
	for by := range pairs {
		for i := range pairs {
			for k := range pairs {
				comes[i][k] = comes[i][k] || comes[i][by] && comes[by][k]
			}
		}
	}
	for i := range pairs {
		if comes[i][i] {
			return true
		}
	}
	return false
}

func lookAtBestFor(t *testing.T, s impl.Spp, chosen []int, node int, want int, wantOk bool) {
	t.Helper()
	if got, ok := impl.BestFor(s, chosen, node); got != want || ok != wantOk {
		t.Errorf("BestFor(%v, %v, %d) = %v, %v, not %v, %v", s, chosen, node, got, ok, want, wantOk)
	}
}

func lookAtStable(t *testing.T, s impl.Spp, chosen []int, want bool) {
	t.Helper()
	if got, ok := impl.IsStable(s, chosen); got != want || !ok {
		t.Errorf("IsStable(%v, %v) = %v, %v, not %v", s, chosen, got, ok, want)
	}
}

func lookAtActivated(t *testing.T, s impl.Spp, chosen []int, want ...int) {
	t.Helper()
	if got, ok := impl.ActivateAll(s, chosen); !slices.Equal(got, want) || !ok {
		t.Errorf("ActivateAll(%v, %v) = %v, %v, not %v", s, chosen, got, ok, want)
	}
}

func lookAtPlay(t *testing.T, s impl.Spp, l []int, want ...int) {
	t.Helper()
	if got, ok := impl.PlaySpp(s, l); !slices.Equal(got, want) || !ok {
		t.Errorf("PlaySpp(%v, %v) = %v, %v, not %v", s, l, got, ok, want)
	}
}

func lookAtStableOnes(t *testing.T, s impl.Spp, want ...[]int) {
	t.Helper()
	if got, ok := impl.StableOnes(s); !sameChoices(got, want) || !ok {
		t.Errorf("StableOnes(%v) = %v, %v, not %v", s, got, ok, want)
	}
}

func lookAtWheel(t *testing.T, s impl.Spp, want bool) {
	t.Helper()
	if got, ok := impl.HasWheel(s); got != want || !ok {
		t.Errorf("HasWheel(%v) = %v, %v, not %v", s, got, ok, want)
	}
}

func lookAtSettle(t *testing.T, s impl.Spp, want []int, wantChanged int, wantOk bool) {
	t.Helper()
	if got, changed, ok := impl.SettleSpp(s); !slices.Equal(got, want) || changed != wantChanged || ok != wantOk {
		t.Errorf("SettleSpp(%v) = %v, %v, %v, not %v, %v, %v", s, got, changed, ok, want, wantChanged, wantOk)
	}
}

// lookAtChoices asks of each node, whatever all have chosen.
func lookAtChoices(t *testing.T, s impl.Spp) {
	t.Helper()
	texts := pathTexts(s)
	for _, chosen := range allChosen(texts) {
		for i := range texts {
			lookAtBestFor(t, s, chosen, i+1, bestForByWords(texts, chosen, i+1), true)
		}
		lookAtStable(t, s, chosen, isStableByWords(texts, chosen))
		lookAtActivated(t, s, chosen, playByWords(texts, chosen, inTurn(len(texts)))...)
	}
}

// lookAtPromised asks for what promise 10 tells of a problem without a wheel.
func lookAtPromised(t *testing.T, s impl.Spp, r *rand.Rand) {
	t.Helper()
	nodes := len(s.Ranked)
	stable, ok := impl.StableOnes(s)
	if !ok || len(stable) != 1 {
		t.Fatalf("%v has no wheel, but StableOnes has %v, %v", s, stable, ok)
	}
	if got, _, ok := impl.SettleSpp(s); !slices.Equal(got, stable[0]) || !ok {
		t.Errorf("%v has no wheel, but SettleSpp comes to %v, %v, not %v", s, got, ok, stable[0])
	}
	backwards := slices.Clone(inTurn(nodes))
	slices.Reverse(backwards)
	mixed := slices.Clone(inTurn(nodes))
	r.Shuffle(nodes, func(i, k int) { mixed[i], mixed[k] = mixed[k], mixed[i] })
	for _, turn := range [][]int{inTurn(nodes), backwards, mixed} {
		lookAtPlay(t, s, slices.Repeat(turn, mostRounds/nodes), stable[0]...)
	}
	if is, ok := impl.IsStable(s, stable[0]); !is || !ok {
		t.Errorf("%v: %v does not stay: %v, %v", s, stable[0], is, ok)
	}
}

// sppKind is what is told of a problem as a whole.
type sppKind struct {
	wheel   bool
	stable  int
	settled bool
}

func lookAtProblem(t *testing.T, s impl.Spp, r *rand.Rand) sppKind {
	t.Helper()
	if !impl.GoodSpp(s) {
		t.Fatalf("%v is not good", s)
	}
	texts := pathTexts(s)
	wheel, stable := hasWheelByWords(texts), stableOnesByWords(texts)
	lookAtWheel(t, s, wheel)
	lookAtStableOnes(t, s, stable...)
	chosen, changed, settled := settleByWords(texts, mostRounds)
	lookAtSettle(t, s, chosen, changed, settled)
	if !wheel {
		lookAtPromised(t, s, r)
	}
	return sppKind{wheel, len(stable), settled}
}

// waysOf has all paths from each of so many nodes, whoever is on them.
func waysOf(nodes int) [][][]int {
	all := make([][][]int, nodes)
	rows := [][]int{{0}}
	for i := 0; i < len(rows); i++ {
		for node := 1; node <= nodes; node++ {
			if !slices.Contains(rows[i], node) {
				row := append([]int{node}, rows[i]...)
				rows = append(rows, row)
				all[node-1] = append(all[node-1], row)
			}
		}
	}
	return all
}

// rankings has all rows of at most so many unlike ones of these paths.
func rankings(paths [][]int, most int) [][][]int {
	all := [][][]int{{}}
	for i := 0; i < len(all); i++ {
		for _, path := range paths {
			like := func(other []int) bool { return slices.Equal(other, path) }
			if len(all[i]) < most && !slices.ContainsFunc(all[i], like) {
				all = append(all, append(slices.Clone(all[i]), path))
			}
		}
	}
	return all
}

// eachSmall hands over all ways to rank at most so many paths of so many nodes, also those in which what is behind a first node is missing.
func eachSmall(nodes, most int, look func(impl.Spp)) {
	ways := waysOf(nodes)
	lists := make([][][][]int, nodes)
	for i := range lists {
		lists[i] = rankings(ways[i], most)
	}
	places := make([]int, nodes)
	for places[0] < len(lists[0]) {
		s := impl.Spp{}
		for i, place := range places {
			s.Ranked = append(s.Ranked, lists[i][place])
		}
		look(s)
		places[nodes-1]++
		for i := nodes - 1; i > 0 && places[i] == len(lists[i]); i-- {
			places[i] = 0
			places[i-1]++
		}
	}
}

func smallProblems(nodes, most int) []impl.Spp {
	var all []impl.Spp
	eachSmall(nodes, most, func(s impl.Spp) {
		if impl.GoodSpp(s) {
			all = append(all, s)
		}
	})
	return all
}

// mixedSpp grows paths ahead of others: at the end of a ranking (kind 0: then there is no wheel, since each path comes behind what is behind its first node and behind all that are better), anywhere in it (kind 1), or mostly at its end (kind 2).
func mixedSpp(nodes, tries, kind int, r *rand.Rand) impl.Spp {
	s := impl.Spp{Ranked: make([][][]int, nodes)}
	rows := [][]int{{0}}
	for range tries {
		i := r.Intn(nodes)
		row := append([]int{i + 1}, rows[r.Intn(len(rows))]...)
		like := func(other []int) bool { return slices.Equal(other, row) }
		if slices.Contains(row[1:], i+1) || len(s.Ranked[i]) == mostRanked || slices.ContainsFunc(s.Ranked[i], like) {
			continue
		}
		place := len(s.Ranked[i])
		if kind == 1 || kind == 2 && r.Intn(5) == 0 {
			place = r.Intn(place + 1)
		}
		s.Ranked[i] = slices.Insert(s.Ranked[i], place, row)
		rows = append(rows, row)
	}
	return s
}

// ringOf has so many nodes, each of which likes best to go by the next one alone.
func ringOf(nodes int) impl.Spp {
	s := impl.Spp{}
	for node := 1; node <= nodes; node++ {
		s.Ranked = append(s.Ranked, [][]int{{node, node%nodes + 1, 0}, {node, 0}})
	}
	return s
}

func lineDown() impl.Spp {
	return sppOf("123450", "23450", "3450", "450", "50")
}

func lineUp() impl.Spp {
	return sppOf("10", "210", "3210", "43210", "543210")
}

func twoThatAgree() impl.Spp {
	return sppOf("120 10", "20 210")
}

func twoThatDisagree() impl.Spp {
	return sppOf("120 10", "210 20")
}

// fullSpp has as many nodes, and as many paths of each, as there may be.
func fullSpp() impl.Spp {
	s := impl.Spp{}
	for _, paths := range waysOf(mostSppNodes) {
		s.Ranked = append(s.Ranked, paths[:mostRanked])
	}
	return s
}

func goodSpps() map[string]impl.Spp {
	all := map[string]impl.Spp{
		"one node without a path":            sppOf(""),
		"one node":                           sppOf("10"),
		"nodes without paths":                sppOf("", "", "", "", ""),
		"lists that are not nil":             {Ranked: [][][]int{{}, {{2, 0}}, {}}},
		"two":                                sppOf("120 10", "210 20"),
		"a line down":                        lineDown(),
		"a line up":                          lineUp(),
		"as many paths as may be":            sppOf("10 120 130 1230 1320 140", "20 230", "30 320", "40"),
		"all as many as may be":              fullSpp(),
		"by one behind":                      sppOf("120", "20"),
		"by one ahead":                       sppOf("10", "210"),
		"the longest path":                   sppOf("10", "210", "3210", "43210", "543210"),
		"a path behind that is not the best": sppOf("120", "230 20", "30"),
	}
	for nodes := 2; nodes <= mostSppNodes; nodes++ {
		all[fmt.Sprintf("a ring of %d", nodes)] = ringOf(nodes)
	}
	r := rand.New(rand.NewSource(10))
	for i := range 60 {
		nodes := 1 + i%mostSppNodes
		all[fmt.Sprintf("mixed %d", i)] = mixedSpp(nodes, r.Intn(60), i%3, r)
	}
	return all
}

// farNumbers are no nodes, whatever is cut off them.
func farNumbers() []int {
	return []int{-2, -1, 6, 7, 255, 256, 257, 1<<32 + 1, 1<<32 + 2, math.MinInt, math.MinInt + 1, math.MaxInt}
}

func badSpps() map[string]impl.Spp {
	all := map[string]impl.Spp{
		"nothing":                                {},
		"no nodes, not nil":                      {Ranked: [][][]int{}},
		"one node too many":                      sppOf("10", "20", "30", "40", "50", "60"),
		"one node too many, without paths":       sppOf("", "", "", "", "", ""),
		"far too many nodes":                     {Ranked: make([][][]int, 300)},
		"one path too many":                      sppOf("10 120 130 1230 1320 140 150", "20 230", "30 320", "40", "50"),
		"one path too many of the last node":     sppOf("10", "20 210", "30 310", "40", "50 510 520 530 540 5210 5310"),
		"far too many paths":                     {Ranked: [][][]int{slices.Repeat([][]int{{1, 0}}, 300)}},
		"a path twice":                           sppOf("10 10"),
		"a path twice, another one between":      sppOf("120 10 120", "20"),
		"a path twice, at the end":               sppOf("10", "210 20 20"),
		"an empty path":                          {Ranked: [][][]int{{{}}}},
		"a nil path behind a good one":           {Ranked: [][][]int{{{1, 0}, nil}}},
		"the node alone":                         sppOf("1"),
		"0 alone":                                sppOf("0"),
		"the node alone, of another one":         sppOf("10", "2"),
		"it begins at another node":              sppOf("20", "20"),
		"it begins at another node, behind":      sppOf("10 210", "210"),
		"it begins at 0":                         sppOf("010"),
		"it begins at 0, and ends there":         sppOf("00"),
		"paths of unlike nodes in wrong places":  sppOf("20", "10"),
		"it does not end at 0":                   sppOf("12", "20"),
		"it does not end at 0, but has it":       sppOf("102", "20 02"),
		"it does not end at all":                 sppOf("11"),
		"it ends at 0 twice":                     sppOf("100"),
		"0 on its way":                           sppOf("1020", "20"),
		"0 on its way, with that behind it":      sppOf("1020", "20 020"),
		"a node twice":                           sppOf("110", ""),
		"a node twice, itself":                   sppOf("110 10"),
		"a node twice, another one between":      sppOf("1210 10", "210"),
		"another node twice":                     sppOf("1220", "220 20"),
		"another node twice, further on":         sppOf("12320", "2320 20", "320"),
		"what is behind is no path":              sppOf("120", "210"),
		"what is behind is missing":              sppOf("120", ""),
		"what is behind is no path of the next":  sppOf("120", "", "20"),
		"what is behind is longer":               sppOf("120", "230", "30"),
		"what is behind is shorter":              sppOf("1230", "20", "30"),
		"what is behind ends otherwise":          sppOf("1230", "240", "30", "40"),
		"what is behind is of the one behind":    sppOf("1230 10", "20", "30 320"),
		"what is behind, further on, is no path": sppOf("12340", "2340", "30", "40"),
		"a node that is not there":               sppOf("120"),
		"a node that is not there, further on":   sppOf("1230", "230"),
		"only the last node's is wrong":          sppOf("10", "20", "30", "40", "540 51"),
		"only a middle node's is wrong":          sppOf("10", "20", "3", "40", "50"),
	}
	for _, far := range farNumbers() {
		for name, path := range map[string][]int{
			"ahead":        {far, 0},
			"in between":   {1, far, 0},
			"further on":   {1, 2, far, 0},
			"at the end":   {1, far},
			"behind all":   {1, 0, far},
			"in 0's place": {1, 2, far},
		} {
			all[fmt.Sprintf("%d %s", far, name)] = impl.Spp{Ranked: [][][]int{{path}, {{2, 0}}}}
			all[fmt.Sprintf("%d %s, behind a good one", far, name)] = impl.Spp{Ranked: [][][]int{{{1, 0}, path}, {{2, 0}}}}
		}
	}
	all["a path without end"] = impl.Spp{Ranked: [][][]int{{append(slices.Repeat([]int{1}, 100000), 0)}}}
	all["a path that goes on and on"] = impl.Spp{Ranked: [][][]int{{append(slices.Repeat([]int{1, 2}, 100000), 0)}, {{2, 0}}}}
	return all
}

func TestProblemsAreGoodByTheirWords(t *testing.T) {
	for name, s := range goodSpps() {
		if !impl.GoodSpp(s) || !goodSppByWords(s) {
			t.Errorf("%s: %v is not good", name, s)
		}
	}
	for name, s := range badSpps() {
		if impl.GoodSpp(s) || goodSppByWords(s) {
			t.Errorf("%s: is good", name)
		}
	}
}

func TestGoodSppOfAllSmallRankings(t *testing.T) {
	for _, c := range []struct{ nodes, most, all, good int }{
		{1, 2, 2, 2}, {2, 2, 25, 14}, {3, 1, 216, 29}, {3, 2, 17576, 807}, {4, 1, 83521, 212},
	} {
		all, good := 0, 0
		eachSmall(c.nodes, c.most, func(s impl.Spp) {
			all++
			want := goodSppByWords(s)
			if got := impl.GoodSpp(s); got != want {
				t.Errorf("GoodSpp(%v) = %v", s, got)
			}
			if want {
				good++
			}
		})
		if all != c.all || good != c.good {
			t.Error(c, all, good)
		}
	}
}

// TestGoodSppOfAllRowsOfOneNode has all rows of up to four numbers as the one path of a node.
func TestGoodSppOfAllRowsOfOneNode(t *testing.T) {
	rows := [][]int{{}}
	for i := 0; i < len(rows); i++ {
		for number := -1; number <= 4 && len(rows[i]) < 4; number++ {
			rows = append(rows, append(slices.Clone(rows[i]), number))
		}
	}
	good := 0
	for _, row := range rows {
		for node := range 3 {
			s := sppOf("10 120 130", "20 210 230", "30 310 320")
			s.Ranked[node] = append(s.Ranked[node], row)
			want := goodSppByWords(s)
			if got := impl.GoodSpp(s); got != want {
				t.Errorf("GoodSpp(%v) = %v", s, got)
			}
			if want {
				good++
			}
		}
	}
	if good != 6 {
		t.Error(good)
	}
}

// TestProblemsThatAreNotQuiteGood changes one number of a good problem, or takes one path out of it.
func TestProblemsThatAreNotQuiteGood(t *testing.T) {
	r := rand.New(rand.NewSource(101))
	counts := [2]int{}
	for i := range 20000 {
		s := mixedSpp(1+r.Intn(mostSppNodes), 30, 1, r)
		node := r.Intn(len(s.Ranked))
		if len(s.Ranked[node]) == 0 {
			continue
		}
		number := r.Intn(len(s.Ranked[node]))
		path := slices.Clone(s.Ranked[node][number])
		path[r.Intn(len(path))] = r.Intn(8) - 1
		switch i % 4 {
		case 0:
			s.Ranked[node] = slices.Delete(slices.Clone(s.Ranked[node]), number, number+1)
		case 1:
			s.Ranked[node] = append(slices.Clone(s.Ranked[node]), path)
		default:
			s.Ranked[node][number] = path
		}
		want := goodSppByWords(s)
		if got := impl.GoodSpp(s); got != want {
			t.Errorf("GoodSpp(%v) = %v", s, got)
		}
		if want {
			counts[1]++
		} else {
			counts[0]++
		}
	}
	if counts[0] < 3000 || counts[1] < 2000 {
		t.Error(counts)
	}
}

func TestBestForOfPathsThatCanBeHad(t *testing.T) {
	s := sppOf("120 1320 130 10", "210 20", "320 30", "4120 410", "")
	for name, c := range map[string]struct {
		chosen []int
		node   int
		want   int
	}{
		"the node and 0 alone, nobody has chosen":                 {none(5), 1, 3},
		"the node and 0 alone, behind one that can't be had":      {none(5), 2, 1},
		"by a neighbour that has chosen it":                       {[]int{-1, 1, -1, -1, -1}, 1, 0},
		"by one that has chosen another one":                      {[]int{-1, 0, -1, -1, -1}, 1, 3},
		"by one that has chosen none":                             {[]int{3, -1, -1, -1, -1}, 1, 3},
		"the second one":                                          {[]int{-1, -1, 0, -1, -1}, 1, 1},
		"the second one, the first one being had by another":      {[]int{-1, 0, 0, -1, -1}, 1, 1},
		"the third one, paths ahead of it can't be had":           {[]int{-1, 0, 1, -1, -1}, 1, 2},
		"the first of several":                                    {[]int{-1, 1, 1, -1, -1}, 1, 0},
		"the first of several, with another one":                  {[]int{-1, 1, 0, -1, -1}, 1, 0},
		"what it has chosen itself counts for nothing":            {[]int{1, -1, -1, -1, -1}, 1, 3},
		"what it has chosen itself counts for nothing, the first": {[]int{0, -1, -1, -1, -1}, 1, 3},
		"a node that could stay":                                  {[]int{3, 0, -1, -1, -1}, 2, 0},
		"a neighbour goes by another way":                         {[]int{2, -1, 1, -1, -1}, 2, 1},
		"a neighbour goes by it itself":                           {[]int{0, 1, -1, -1, -1}, 2, 1},
		"what is behind is chosen, though it does not stay":       {[]int{0, 0, -1, -1, -1}, 4, 0},
		"a node without a path by itself has one by another":      {[]int{3, -1, -1, -1, -1}, 4, 1},
		"no path can be had":                                      {[]int{1, 1, 0, -1, -1}, 4, -1},
		"no path can be had, nobody has chosen":                   {none(5), 4, -1},
		"no path can be had, it has chosen one":                   {[]int{-1, -1, -1, 1, -1}, 4, -1},
		"a node without paths":                                    {[]int{3, 1, 1, 1, -1}, 5, -1},
	} {
		t.Run(name, func(t *testing.T) { lookAtBestFor(t, s, c.chosen, c.node, c.want, true) })
	}
}

// TestBestForGoesByTheNextNodeAlone: whoever is further on may have chosen something else by now.
func TestBestForGoesByTheNextNodeAlone(t *testing.T) {
	s := sppOf("1230", "230 20", "30 320")
	lookAtBestFor(t, s, []int{-1, 0, -1}, 1, 0, true)
	lookAtBestFor(t, s, []int{-1, 0, 1}, 1, 0, true)
	lookAtBestFor(t, s, []int{-1, 1, 0}, 1, -1, true)
	lookAtStable(t, s, []int{0, 0, 1}, false)
	lookAtActivated(t, s, []int{-1, 0, 1}, 0, 1, 0)
}

func TestBestForOutOfBounds(t *testing.T) {
	for nodes := 1; nodes <= mostSppNodes; nodes++ {
		s := sppOf(strings.Fields("10 20 30 40 50")[:nodes]...)
		for _, node := range append(farNumbers(), 0, nodes+1) {
			lookAtBestFor(t, s, none(nodes), node, 0, false)
			lookAtBestFor(t, s, make([]int, nodes), node, 0, false)
		}
		for node := 1; node <= nodes; node++ {
			lookAtBestFor(t, s, none(nodes), node, 0, true)
		}
	}
}

func badChosen(s impl.Spp) map[string][]int {
	nodes := len(s.Ranked)
	all := map[string][]int{
		"none too many":        none(nodes + 1),
		"none too few":         none(nodes - 1),
		"far too many":         none(1000),
		"one too many, 0":      append(none(nodes), 0),
		"nothing at all":       nil,
		"nothing, but not nil": {},
	}
	for i, paths := range s.Ranked {
		for _, number := range []int{-2, len(paths), len(paths) + 1, 255, 256, -256, 1 << 32, 1<<32 - 1, -1 << 32, math.MinInt, math.MaxInt} {
			chosen := none(nodes)
			chosen[i] = number
			all[fmt.Sprintf("%d at %d", number, i)] = chosen
		}
	}
	return all
}

func refusesChosen(t *testing.T, name string, s impl.Spp, chosen []int) {
	t.Helper()
	for node := -1; node <= mostSppNodes+1; node++ {
		if got, ok := impl.BestFor(s, chosen, node); got != 0 || ok {
			t.Errorf("%s: BestFor %d: %v, %v", name, node, got, ok)
		}
	}
	if got, ok := impl.IsStable(s, chosen); got || ok {
		t.Errorf("%s: IsStable: %v, %v", name, got, ok)
	}
	if got, ok := impl.ActivateAll(s, chosen); len(got) != 0 || ok {
		t.Errorf("%s: ActivateAll: %v, %v", name, got, ok)
	}
}

func TestChosenThatAreNotGoodAreRefused(t *testing.T) {
	for name, s := range goodSpps() {
		for which, chosen := range badChosen(s) {
			refusesChosen(t, name+": "+which, s, chosen)
		}
	}
}

// TestChosenAtTheirBounds: -1 and the last path of each node may be chosen.
func TestChosenAtTheirBounds(t *testing.T) {
	for _, s := range goodSpps() {
		for i, paths := range s.Ranked {
			for _, number := range []int{-1, len(paths) - 1} {
				chosen := none(len(s.Ranked))
				chosen[i] = number
				want := bestForByWords(pathTexts(s), chosen, i+1)
				lookAtBestFor(t, s, chosen, i+1, want, true)
			}
		}
	}
}

func TestStableOnesStay(t *testing.T) {
	s := twoThatDisagree()
	lookAtStable(t, s, []int{0, 1}, true)
	lookAtStable(t, s, []int{1, 0}, true)
	lookAtStable(t, s, []int{1, 1}, false)
	lookAtStable(t, s, []int{0, 0}, false)
	lookAtStable(t, s, []int{-1, -1}, false)
	lookAtStable(t, s, []int{-1, 1}, false)
	lookAtStable(t, s, []int{1, -1}, false)
	lookAtStable(t, sppOf("", ""), []int{-1, -1}, true)
	lookAtStable(t, sppOf("", "20"), []int{-1, 0}, true)
	lookAtStable(t, sppOf("", "20"), []int{-1, -1}, false)
	lookAtStable(t, sppOf("10 120", "20"), []int{1, 0}, false) // it can be had, but a better one, too
	lookAtStable(t, lineDown(), []int{0, 0, 0, 0, 0}, true)
	for i := range mostSppNodes {
		chosen := make([]int, mostSppNodes)
		chosen[i] = -1
		lookAtStable(t, lineDown(), chosen, false)
		lookAtStable(t, lineUp(), chosen, false)
	}
}

func TestActivateAllSeesWhatThoseAheadHaveChosen(t *testing.T) {
	lookAtActivated(t, lineUp(), none(5), 0, 0, 0, 0, 0)
	lookAtActivated(t, lineDown(), none(5), -1, -1, -1, -1, 0)
	lookAtActivated(t, lineDown(), []int{-1, -1, -1, -1, 0}, -1, -1, -1, 0, 0)
	lookAtActivated(t, lineDown(), []int{0, 0, 0, 0, -1}, 0, 0, 0, -1, 0)
	lookAtActivated(t, twoThatDisagree(), none(2), 1, 0)
	lookAtActivated(t, twoThatDisagree(), []int{0, 0}, 1, 0)
	lookAtActivated(t, twoThatDisagree(), []int{1, 1}, 0, 1)
	lookAtActivated(t, twoThatAgree(), none(2), 1, 0)
	lookAtActivated(t, twoThatAgree(), []int{1, 0}, 0, 0)
	lookAtActivated(t, sppOf("10 120", "20", "3120", "410"), none(4), 0, 0, -1, 0)
	// node 2 has lost 20 in this round already when 3 looks
	lookAtActivated(t, sppOf("10", "210 20", "320 30"), []int{-1, 1, 1}, 0, 0, 1)
	lookAtActivated(t, sppOf("10", "20 210", "320 30"), []int{-1, -1, -1}, 0, 0, 0)
}

func TestPlaysOfNodes(t *testing.T) {
	agree := twoThatAgree()
	lookAtPlay(t, agree, nil, -1, -1)
	lookAtPlay(t, agree, []int{}, -1, -1)
	lookAtPlay(t, agree, []int{1}, 1, -1)
	lookAtPlay(t, agree, []int{2}, -1, 0)
	lookAtPlay(t, agree, []int{1, 1}, 1, -1)
	lookAtPlay(t, agree, []int{2, 2}, -1, 0)
	lookAtPlay(t, agree, []int{1, 2}, 1, 0)
	lookAtPlay(t, agree, []int{2, 1}, 0, 0)
	lookAtPlay(t, agree, []int{1, 2, 1}, 0, 0)
	disagree := twoThatDisagree()
	lookAtPlay(t, disagree, []int{1, 2}, 1, 0)
	lookAtPlay(t, disagree, []int{2, 1}, 0, 1)
	lookAtPlay(t, disagree, []int{1, 1, 2, 1, 2, 2}, 1, 0)
	lookAtPlay(t, disagree, []int{2, 2, 1, 2, 1, 1}, 0, 1)
	lookAtPlay(t, lineDown(), []int{1, 2, 3, 4, 5, 3, 2, 1}, -1, -1, -1, -1, 0)
	lookAtPlay(t, lineDown(), []int{5, 4, 3, 2, 1}, 0, 0, 0, 0, 0)
	lookAtPlay(t, lineUp(), []int{5, 4, 3, 2, 1}, 0, -1, -1, -1, -1)
	lookAtPlay(t, sppOf(""), []int{1, 1, 1}, -1)
	// three that never come to rest: round they go, a step each
	bad := ringOf(3)
	lookAtPlay(t, bad, []int{1, 2, 3}, 1, 1, 0)
	lookAtPlay(t, bad, []int{1, 2, 3, 1}, 0, 1, 0)
	lookAtPlay(t, bad, []int{1, 2, 3, 1, 3}, 0, 1, 1)
	lookAtPlay(t, bad, []int{1, 2, 3, 1, 3, 2}, 0, 0, 1)
}

func TestPlaysOfAsManyNodesAsMayBe(t *testing.T) {
	for name, s := range goodSpps() {
		nodes, texts := len(s.Ranked), pathTexts(s)
		l := slices.Repeat(inTurn(nodes), 2*mostRounds)
		lookAtPlay(t, s, l[:mostRounds-1], playByWords(texts, none(nodes), l[:mostRounds-1])...)
		lookAtPlay(t, s, l[:mostRounds], playByWords(texts, none(nodes), l[:mostRounds])...)
		for _, long := range []int{mostRounds + 1, mostRounds + 2, len(l)} {
			if got, ok := impl.PlaySpp(s, l[:long]); len(got) != 0 || ok {
				t.Errorf("%s: PlaySpp of %d: %v, %v", name, long, got, ok)
			}
		}
	}
}

func TestPlaysOfNodesOutOfBounds(t *testing.T) {
	for nodes := 1; nodes <= mostSppNodes; nodes++ {
		s := sppOf(strings.Fields("10 20 30 40 50")[:nodes]...)
		for _, node := range append(farNumbers(), 0, nodes+1) {
			for _, l := range [][]int{{node}, {1, node}, {node, 1}, {1, node, 1}, append(slices.Repeat([]int{1}, mostRounds-1), node)} {
				if got, ok := impl.PlaySpp(s, l); len(got) != 0 || ok {
					t.Errorf("PlaySpp(%v, %v) = %v, %v", s, l, got, ok)
				}
			}
		}
	}
}

func TestPlaysGoByTheirWords(t *testing.T) {
	r := rand.New(rand.NewSource(102))
	for i := range 6000 {
		nodes := 1 + r.Intn(mostSppNodes)
		s := mixedSpp(nodes, r.Intn(60), i%3, r)
		var l []int
		for range r.Intn(mostRounds + 1) {
			l = append(l, 1+r.Intn(nodes))
		}
		lookAtPlay(t, s, l, playByWords(pathTexts(s), none(nodes), l)...)
	}
}

func TestChoicesOfAllSmallProblems(t *testing.T) {
	all := slices.Concat(smallProblems(1, 2), smallProblems(2, 2), smallProblems(3, 2), smallProblems(4, 1))
	r := rand.New(rand.NewSource(103))
	for i := range 40 {
		all = append(all, mixedSpp(3+i%3, 12, 1+i%2, r))
	}
	for _, s := range all {
		lookAtChoices(t, s)
	}
}

func TestChoicesOfGreaterProblems(t *testing.T) {
	r := rand.New(rand.NewSource(104))
	for i := range 4000 {
		s := mixedSpp(mostSppNodes, 20+r.Intn(60), i%3, r)
		texts := pathTexts(s)
		chosen := none(mostSppNodes)
		for k, paths := range texts {
			chosen[k] = r.Intn(len(paths)+1) - 1
			if i%2 == 0 && len(paths) > 0 { // what was chosen in the order of the nodes is had more often
				chosen[k] = max(chosen[k], bestForByWords(texts, chosen, k+1))
			}
		}
		for k := range texts {
			lookAtBestFor(t, s, chosen, k+1, bestForByWords(texts, chosen, k+1), true)
		}
		lookAtStable(t, s, chosen, isStableByWords(texts, chosen))
		lookAtActivated(t, s, chosen, playByWords(texts, chosen, inTurn(mostSppNodes))...)
	}
}

// TestProblemsThatAreKnown has some without a wheel, and some with one: with no stable one, with two, with just one, come to or not.
func TestProblemsThatAreKnown(t *testing.T) {
	for name, c := range map[string]struct {
		s       impl.Spp
		wheel   bool
		stable  [][]int
		settled []int
		changed int
	}{
		"nobody wants to go":            {sppOf("", ""), false, [][]int{{-1, -1}}, []int{-1, -1}, 0},
		"one node":                      {sppOf("10"), false, [][]int{{0}}, []int{0}, 1},
		"one node without a path":       {sppOf(""), false, [][]int{{-1}}, []int{-1}, 0},
		"two that agree":                {twoThatAgree(), false, [][]int{{0, 0}}, []int{0, 0}, 2},
		"both go by themselves":         {sppOf("10 120", "20 210"), false, [][]int{{0, 0}}, []int{0, 0}, 1},
		"a wheel and two":               {twoThatDisagree(), true, [][]int{{0, 1}, {1, 0}}, []int{1, 0}, 1},
		"a wheel and none":              {sppOf("120 10", "230 20", "310 30"), true, nil, nil, 0},
		"a wheel and just one":          {sppOf("130 120 10", "210 20", "30"), true, [][]int{{0, 1, 0}}, []int{0, 1, 0}, 2},
		"one that is not come to":       {sppOf("1340 140", "", "340", "450 40", "5140 50"), true, [][]int{{-1, -1, -1, 0, 1}}, nil, 0},
		"one that is not come to, four": {sppOf("130 120 10", "230 20", "3410 30", "410"), true, [][]int{{0, 0, 1, -1}}, nil, 0},
		"two wheels and four":           {sppOf("120 10", "210 20", "340 30", "430 40"), true, [][]int{{0, 1, 0, 1}, {0, 1, 1, 0}, {1, 0, 0, 1}, {1, 0, 1, 0}}, []int{1, 0, 1, 0}, 1},
		"a ring of four":                {ringOf(4), true, [][]int{{0, 1, 0, 1}, {1, 0, 1, 0}}, nil, 0},
		"a ring of five":                {ringOf(5), true, nil, nil, 0},
		"a line down":                   {lineDown(), false, [][]int{{0, 0, 0, 0, 0}}, []int{0, 0, 0, 0, 0}, 5},
		"a line up":                     {lineUp(), false, [][]int{{0, 0, 0, 0, 0}}, []int{0, 0, 0, 0, 0}, 1},
		"none comes first":              {sppOf("1230", "230 20", "320 30"), true, [][]int{{-1, 1, 0}, {0, 0, 1}}, []int{-1, 1, 0}, 1},
		"none comes first, at the end":  {sppOf("120 10", "210 20", "3120"), true, [][]int{{0, 1, 0}, {1, 0, -1}}, []int{1, 0, -1}, 1},
	} {
		t.Run(name, func(t *testing.T) {
			lookAtWheel(t, c.s, c.wheel)
			lookAtStableOnes(t, c.s, c.stable...)
			lookAtSettle(t, c.s, c.settled, c.changed, c.settled != nil)
		})
	}
}

// TestStableOnesAreToldInOrder has problems with many of them: pairs that disagree, one that looks on, and some that have none chosen.
func TestStableOnesAreToldInOrder(t *testing.T) {
	lookAtStableOnes(t, sppOf("10 120", "20", "3120"), []int{0, 0, -1})
	lookAtStableOnes(t, sppOf("120", "230 20", "320 30"), []int{-1, 0, 1}, []int{0, 1, 0})
	lookAtStableOnes(t, sppOf("120 1230", "230 20", "320 30"), []int{0, 1, 0}, []int{1, 0, 1})
	lookAtStableOnes(t, sppOf("120 10", "210 20", "340 30", "430 40", "510 5340"),
		[]int{0, 1, 0, 1, 1}, []int{0, 1, 1, 0, -1}, []int{1, 0, 0, 1, 0}, []int{1, 0, 1, 0, 0})
	r := rand.New(rand.NewSource(105))
	several, noneFirst := 0, 0
	for range 4000 {
		stable, _ := impl.StableOnes(mixedSpp(mostSppNodes, 40, 1, r))
		if !slices.IsSortedFunc(stable, slices.Compare) {
			t.Fatal(stable)
		}
		if len(stable) > 1 {
			several++
			if i := slices.IndexFunc(stable[1:], func(c []int) bool { return slices.Contains(c, -1) }); i >= 0 {
				noneFirst++
			}
		}
	}
	if several < 1000 || noneFirst < 100 {
		t.Error(several, noneFirst)
	}
}

func TestWheelsThatAreKnown(t *testing.T) {
	for name, c := range map[string]struct {
		s    impl.Spp
		want bool
	}{
		"no paths":             {sppOf("", "", ""), false},
		"all go by themselves": {sppOf("10", "20", "30", "40", "50"), false},
		"a wheel of two":       {twoThatDisagree(), true},
		"one of the two likes it better by itself":       {sppOf("120 10", "20 210"), false},
		"the other one does":                             {sppOf("10 120", "210 20"), false},
		"both do":                                        {sppOf("10 120", "20 210"), false},
		"one of the two has no other path":               {sppOf("120", "20"), false},
		"one of the two can't go by the other one":       {sppOf("120 10", "20"), false},
		"two with others between":                        {sppOf("130 120 140 10", "230 240 210 20", "30", "40"), true},
		"two with others behind":                         {sppOf("120 10 130", "210 20 230", "30"), true},
		"two, each with a way round ahead of it":         {sppOf("1320 10", "2410 20", "320", "410"), true},
		"a way round on one side alone":                  {sppOf("1320 10", "210 20", "320"), true},
		"a way round on one side, and no turn":           {sppOf("1320 10", "20 210", "320"), false},
		"a wheel of three":                               {ringOf(3), true},
		"a wheel of four":                                {ringOf(4), true},
		"a wheel of five":                                {ringOf(5), true},
		"a wheel of three, one turned":                   {sppOf("120 10", "230 20", "30 310"), false},
		"a wheel of five, the last one turned":           {sppOf("120 10", "230 20", "340 30", "450 40", "50 510"), false},
		"a wheel of five, the first one turned":          {sppOf("10 120", "230 20", "340 30", "450 40", "510 50"), false},
		"a wheel of five, a middle one turned":           {sppOf("120 10", "230 20", "30 340", "450 40", "510 50"), false},
		"three, the other way round":                     {sppOf("130 10", "210 20", "320 30"), true},
		"three that only seem to turn":                   {sppOf("120 10", "230 20", "30"), false},
		"a path is as good as itself, and leads to ends": {lineUp(), false},
		"likewise, the other way":                        {lineDown(), false},
		"a way is as good, and all have just one":        {sppOf("123450", "23450", "3450", "450", "50"), false},
		"the node on the wheel has one path alone":       {sppOf("1320 10", "210 20", "320 30"), true},
		"a wheel by paths that are as good":              {sppOf("1230 10", "230", "310 30"), true},
		"no wheel by paths that are as good":             {sppOf("1230 10", "230", "30 310"), false},
		"not the paths that are there, but their rests":  {sppOf("12340 10", "2340", "340", "4510 40", "510"), true},
		"a wheel that is never chosen":                   {sppOf("130 120 10", "230 210 20", "30"), true},
		"a wheel of the last two":                        {sppOf("10", "20", "30", "450 40", "540 50"), true},
		"a wheel of the first and the last":              {sppOf("150 10", "20", "30", "40", "510 50"), true},
		"as many paths as may be":                        {fullSpp(), false},
	} {
		t.Run(name, func(t *testing.T) { lookAtWheel(t, c.s, c.want) })
	}
}

func TestWheelsGoByTheirWords(t *testing.T) {
	r := rand.New(rand.NewSource(106))
	wheels := 0
	for i := range 9000 {
		s := mixedSpp(2+r.Intn(mostSppNodes-1), r.Intn(60), 1+i%2, r)
		want := hasWheelByWords(pathTexts(s))
		lookAtWheel(t, s, want)
		if want {
			wheels++
		}
	}
	if wheels < 2000 || wheels > 7000 {
		t.Error(wheels)
	}
}

// TestWheelsStayWhoeverIsCalledWhat gives the nodes other numbers.
func TestWheelsStayWhoeverIsCalledWhat(t *testing.T) {
	r := rand.New(rand.NewSource(107))
	for range 3000 {
		s := mixedSpp(mostSppNodes, 30, 2, r)
		names := append([]int{0}, r.Perm(mostSppNodes)...)
		for i := range names[1:] {
			names[i+1]++
		}
		other := impl.Spp{Ranked: make([][][]int, mostSppNodes)}
		for i, paths := range s.Ranked {
			for _, path := range paths {
				var row []int
				for _, node := range path {
					row = append(row, names[node])
				}
				other.Ranked[names[i+1]-1] = append(other.Ranked[names[i+1]-1], row)
			}
		}
		want, _ := impl.HasWheel(s)
		lookAtWheel(t, other, want)
	}
}

// TestSettleWithinItsRounds has problems that take many rounds, just as many as may be, and more: these come to rest as well, but too late.
func TestSettleWithinItsRounds(t *testing.T) {
	for _, c := range []struct {
		s       impl.Spp
		changed int
	}{
		{sppOf("12340", "2340", "340", "450 40", "52340 512340 50 5340"), 10},
		{sppOf("1430 1230 1240 10", "234510 230 240", "340 34510 30", "4510 430 40", "510 5340"), 14},
		{sppOf("123450 1240 130 150 1450", "23450 2340 24530 240 20", "34150 340 3520 3450 30", "43520 4150 450 4530 40", "51240 530 5130 520 50"), 39},
		{sppOf("123450 130 1240 150 143520", "23450 2350 2340 240 20", "34150 340 3520 3450 350 30", "4530 43520 4150 450 40", "51240 5130 530 520 50"), 40},
		{sppOf("1340 120 12340 12350 1450 140", "231450 2350 21450 230 2340 20", "3540 31450 3450 340 350 30", "450 412350 45120 40", "5140 5120 540 5230 50"), 41},
		{sppOf("1420 120 1250 1230", "23450 230 250 20", "3450 3520 340 30", "450 41230 4120 420 41250 40", "51420 51230 520 50"), 41},
		{sppOf("130 123450 1240 150 12530 13520", "23450 2340 2530 240 2350 20", "34150 340 3520 3450 350 30", "4150 450 4530 43520 412530 40", "51240 5130 530 520 50"), 42},
		{sppOf("1230 1240 120 10", "25430 23450 230 240 20", "34510 3450 35120 31240 30", "4510 435120 450 4120 430 40", "5120 5430 510 50"), 72},
	} {
		chosen, changed, ok := settleByWords(pathTexts(c.s), 1000)
		if !ok || changed != c.changed {
			t.Errorf("%v settles within %d, %v, not %d", c.s, changed, ok, c.changed)
		}
		if changed > mostRounds {
			lookAtSettle(t, c.s, nil, 0, false)
		} else {
			lookAtSettle(t, c.s, chosen, changed, true)
		}
		lookAtStable(t, c.s, chosen, true)
		lookAtWheel(t, c.s, true)
	}
}

// TestSettleCountsRoundsNotNodes: several nodes that change in one round count once.
func TestSettleCountsRoundsNotNodes(t *testing.T) {
	lookAtSettle(t, sppOf("10", "20", "30", "40", "50"), []int{0, 0, 0, 0, 0}, 1, true)
	lookAtSettle(t, sppOf("", "", "", "", ""), none(5), 0, true)
	lookAtSettle(t, sppOf("120", "20", "", "450", "50"), []int{0, 0, -1, 0, 0}, 2, true)
	lookAtSettle(t, sppOf("1230", "230", "30", "", ""), []int{0, 0, 0, -1, -1}, 3, true)
	lookAtSettle(t, sppOf("150 10", "250 20", "350 30", "450 40", "50"), []int{0, 0, 0, 0, 0}, 2, true)
}

// TestSettleIsActivateAllAgainAndAgain goes by the program's own ActivateAll.
func TestSettleIsActivateAllAgainAndAgain(t *testing.T) {
	for name, s := range goodSpps() {
		chosen, changed := none(len(s.Ranked)), 0
		for range mostRounds {
			next, ok := impl.ActivateAll(s, chosen)
			if !ok {
				t.Fatalf("%s: %v can't be activated", name, chosen)
			}
			if !slices.Equal(next, chosen) {
				changed++
			}
			chosen = next
		}
		is, ok := impl.IsStable(s, chosen)
		if !ok {
			t.Fatalf("%s: %v can't be asked", name, chosen)
		}
		if !is {
			chosen, changed = nil, 0
		}
		lookAtSettle(t, s, chosen, changed, is)
	}
}

func TestWhereNoWheelTurnsAllSmallProblemsStay(t *testing.T) {
	r := rand.New(rand.NewSource(108))
	for _, c := range []struct{ nodes, most, good, wheels int }{
		{1, 1, 2, 0}, {2, 2, 14, 1}, {3, 3, 25701, 13891}, {4, 1, 212, 0},
	} {
		kinds := map[sppKind]int{}
		good, wheels := 0, 0
		for _, s := range smallProblems(c.nodes, c.most) {
			kind := lookAtProblem(t, s, r)
			kinds[kind]++
			good++
			if kind.wheel {
				wheels++
			}
		}
		if good != c.good || wheels != c.wheels {
			t.Error(c, good, wheels, kinds)
		}
		if c.most == 3 && (kinds[sppKind{true, 0, false}] == 0 || kinds[sppKind{true, 1, true}] == 0 || kinds[sppKind{true, 2, true}] == 0) {
			t.Error(kinds)
		}
	}
}

func TestWhereNoWheelTurnsGreaterProblemsStay(t *testing.T) {
	r := rand.New(rand.NewSource(109))
	kinds := map[sppKind]int{}
	for i := range 4000 {
		nodes := 4 + i%2
		kinds[lookAtProblem(t, mixedSpp(nodes, 10+r.Intn(50), 1+i/2%2, r), r)]++
	}
	for _, kind := range []sppKind{{false, 1, true}, {true, 0, false}, {true, 1, true}, {true, 1, false}, {true, 2, true}, {true, 2, false}, {true, 3, true}} {
		if kinds[kind] == 0 {
			t.Error("not met:", kind, kinds)
		}
	}
	for i := range 2500 {
		s := mixedSpp(1+i%mostSppNodes, 10+r.Intn(200), 0, r)
		lookAtWheel(t, s, false)
		lookAtPromised(t, s, r)
	}
}

// refusesSpp hands over what would be good beside a good problem, and what would not.
func refusesSpp(t *testing.T, name string, s impl.Spp) {
	t.Helper()
	for nodes := range mostSppNodes + 2 {
		refusesChosen(t, name, s, none(nodes))
		refusesChosen(t, name, s, make([]int, nodes))
	}
	refusesChosen(t, name, s, none(len(s.Ranked)))
	for _, l := range [][]int{nil, {1}, {1, 2, 1}, {0}, {-1}, slices.Repeat([]int{1}, mostRounds+1)} {
		if got, ok := impl.PlaySpp(s, l); len(got) != 0 || ok {
			t.Errorf("%s: PlaySpp %v: %v, %v", name, l, got, ok)
		}
	}
	if got, ok := impl.StableOnes(s); len(got) != 0 || ok {
		t.Errorf("%s: StableOnes: %v, %v", name, got, ok)
	}
	if got, ok := impl.HasWheel(s); got || ok {
		t.Errorf("%s: HasWheel: %v, %v", name, got, ok)
	}
	if got, changed, ok := impl.SettleSpp(s); len(got) != 0 || changed != 0 || ok {
		t.Errorf("%s: SettleSpp: %v, %v, %v", name, got, changed, ok)
	}
}

func TestProblemsThatAreNotGoodAreRefused(t *testing.T) {
	for name, s := range badSpps() {
		refusesSpp(t, name, s)
	}
}

func sppWithBehind(s impl.Spp, behind [][]int) impl.Spp {
	own := slices.Clone(s.Ranked)
	for i := range own {
		own[i] = slices.Clone(own[i])
		for k := range own[i] {
			own[i][k] = withBehind(own[i][k], behindNumber)
		}
		own[i] = withBehind(own[i], behind[0])
	}
	return impl.Spp{Ranked: withBehind(own, behind)}
}

func wholeSpp(s impl.Spp) impl.Spp {
	own := whole(s.Ranked)
	for i := range own {
		own[i] = whole(own[i])
		for k := range own[i] {
			own[i][k] = whole(own[i][k])
		}
	}
	return impl.Spp{Ranked: own}
}

// lookAtSppMemory hands all in with memory behind it, and writes into all that is answered.
func lookAtSppMemory(t *testing.T, s impl.Spp, chosen []int, l []int) {
	t.Helper()
	given := sppWithBehind(s, [][]int{{behindNumber, 0}})
	givenChosen, givenL := withBehind(chosen, behindNumber), withBehind(l, behindNumber)
	kept, keptChosen, keptL := wholeSpp(given), whole(givenChosen), whole(givenL)
	same := impl.GoodSpp(given) == impl.GoodSpp(s)
	best, ok := impl.BestFor(given, givenChosen, 1)
	wantBest, wantOk := impl.BestFor(s, chosen, 1)
	same = same && best == wantBest && ok == wantOk
	is, ok := impl.IsStable(given, givenChosen)
	wantIs, wantOk := impl.IsStable(s, chosen)
	same = same && is == wantIs && ok == wantOk
	wheel, ok := impl.HasWheel(given)
	wantWheel, wantOk := impl.HasWheel(s)
	if !same || wheel != wantWheel || ok != wantOk {
		t.Errorf("%v, %v: what lies behind is read", s, chosen)
	}
	lists := func(s impl.Spp, chosen, l []int) [][]int {
		activated, _ := impl.ActivateAll(s, chosen)
		played, _ := impl.PlaySpp(s, l)
		settled, changed, _ := impl.SettleSpp(s)
		stable, _ := impl.StableOnes(s)
		return append(slices.Clone(stable), activated, played, settled, []int{changed})
	}
	got, want := lists(given, givenChosen, givenL), lists(s, chosen, l)
	if !sameChoices(got, want) {
		t.Errorf("%v, %v, %v: %v, not %v", s, chosen, l, got, want)
	}
	for i, list := range got {
		if slices.Contains(whole(list), behindNumber) {
			t.Errorf("%v: what lies behind is handed out: %v", s, whole(list))
		}
		overwrite(list, -9)
		if !sameChoices(got[i+1:], want[i+1:]) {
			t.Errorf("%v: writing into one list makes others %v", s, got[i+1:])
		}
	}
	stable, _ := impl.StableOnes(given)
	overwrite(stable, []int{-9})
	if !sameSpp(wholeSpp(given), kept) || !slices.Equal(whole(givenChosen), keptChosen) || !slices.Equal(whole(givenL), keptL) {
		t.Errorf("%v, %v, %v became %v, %v, %v", kept, keptChosen, keptL, wholeSpp(given), whole(givenChosen), whole(givenL))
	}
}

func TestProblemsAreNotWrittenIntoNorShared(t *testing.T) {
	r := rand.New(rand.NewSource(110))
	for _, s := range goodSpps() {
		nodes := len(s.Ranked)
		played := slices.Repeat(inTurn(nodes), 3)
		chosen := playByWords(pathTexts(s), none(nodes), played)
		lookAtSppMemory(t, s, chosen, played)
		lookAtSppMemory(t, s, none(nodes), nil)
		lookAtSppMemory(t, s, none(nodes)[1:], []int{1 + r.Intn(nodes), nodes + 1})
		lookAtSppMemory(t, s, append(chosen, 0), slices.Repeat([]int{1}, mostRounds+1))
	}
	for _, s := range badSpps() {
		lookAtSppMemory(t, s, none(len(s.Ranked)), []int{1})
	}
}

// TestWhatLiesBehindProblemsIsNotReadAlsoWhereItIsGood cuts lists short whose rest would be as good.
func TestWhatLiesBehindProblemsIsNotReadAlsoWhereItIsGood(t *testing.T) {
	all := sppOf("120 10", "210 20", "30 310")
	two := impl.Spp{Ranked: all.Ranked[:2]}
	lookAtStableOnes(t, two, []int{0, 1}, []int{1, 0})
	lookAtSettle(t, two, []int{1, 0}, 1, true)
	lookAtPlay(t, two, []int{1, 2, 3}[:2], 1, 0)
	lookAtBestFor(t, two, []int{-1, -1, -1}[:2], 3, 0, false)
	lookAtBestFor(t, two, []int{-1, 1, 0}[:2], 1, 0, true)
	lookAtBestFor(t, two, []int{1, 1}[:1], 1, 0, false)
	lookAtActivated(t, two, []int{1, 1, 0}[:2], 0, 1)
	if impl.GoodSpp(impl.Spp{Ranked: all.Ranked[:0]}) || impl.GoodSpp(impl.Spp{Ranked: all.Ranked[:1]}) {
		t.Error("a node is read behind the length")
	}
	missing := impl.Spp{Ranked: [][][]int{{{1, 2, 0}}, [][]int{{2, 1, 0}, {2, 0}}[:0]}}
	if impl.GoodSpp(missing) || impl.GoodSpp(impl.Spp{Ranked: [][][]int{{[]int{1, 0}[:1]}}}) {
		t.Error("what is behind a list's length is taken for a path")
	}
	short := impl.Spp{Ranked: [][][]int{{{1, 2, 0}, {1, 0}}, [][]int{{2, 0}, {2, 1, 0}}[:1]}}
	lookAtBestFor(t, short, []int{1, -1}, 2, 0, true)
	refusesChosen(t, "a path behind the length", short, []int{0, 1})
	lookAtStableOnes(t, short, []int{0, 0})
	if !impl.GoodSpp(impl.Spp{Ranked: [][][]int{{[]int{1, 0, 0}[:2]}}}) {
		t.Error("what is behind a path's length counts")
	}
}

func TestTwoAnswersOfProblemsShareNoMemory(t *testing.T) {
	s, chosen := twoThatDisagree(), []int{0, 1}
	for name, f := range map[string]func() []int{
		"ActivateAll": func() []int { l, _ := impl.ActivateAll(s, chosen); return l },
		"PlaySpp":     func() []int { l, _ := impl.PlaySpp(s, []int{2, 1}); return l },
		"SettleSpp":   func() []int { l, _, _ := impl.SettleSpp(s); return l },
		"StableOnes":  func() []int { l, _ := impl.StableOnes(s); return l[0] },
	} {
		first, second := f(), f()
		want := slices.Clone(first)
		overwrite(first, -9)
		if third := f(); !slices.Equal(second, want) || !slices.Equal(third, want) || len(want) != 2 {
			t.Errorf("%s: %v, %v, not %v", name, second, third, want)
		}
	}
	if !slices.Equal(chosen, []int{0, 1}) || !sameSpp(s, twoThatDisagree()) {
		t.Error(chosen, s)
	}
}

func TestPathsStayByLabelledLoops(t *testing.T) {
	parsed, err := parser.ParseFile(token.NewFileSet(), "../impl/l10_stable.go", nil, parser.SkipObjectResolution)
	if err != nil {
		t.Fatal(err)
	}
	loops, jumps := 0, 0
	ast.Inspect(parsed, func(n ast.Node) bool {
		switch x := n.(type) {
		case *ast.LabeledStmt:
			if _, is := x.Stmt.(*ast.ForStmt); is {
				loops++
			}
		case *ast.BranchStmt:
			if x.Label != nil {
				jumps++
			}
		}
		return true
	})
	if loops == 0 || jumps == 0 {
		t.Error(loops, jumps)
	}
}
