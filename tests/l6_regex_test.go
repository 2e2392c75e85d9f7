package tests

import (
	"go/ast"
	"go/parser"
	"go/token"
	"math"
	"math/rand"
	"slices"
	"strconv"
	"strings"
	"testing"

	"loop.example/g00344/impl"
)

const mostCells = 30
const mostStates = 80
const mostEdges = 200
const longestPath = 10
const lastAsn = 65535

var noneCell = impl.ReCell{Kind: impl.ReNone}
var emptyCell = impl.ReCell{Kind: impl.ReEmpty}
var anyCell = impl.ReCell{Kind: impl.ReAny}
var thenCell = impl.ReCell{Kind: impl.ReThen}
var orCell = impl.ReCell{Kind: impl.ReOr}
var starCell = impl.ReCell{Kind: impl.ReStar}

func oneCell(n int) impl.ReCell {
	return impl.ReCell{Kind: impl.ReOne, N: n}
}

var plainWords = map[string]impl.ReCell{"none": noneCell, "empty": emptyCell, "any": anyCell, "then": thenCell, "or": orCell, "star": starCell}

// cells reads the text of a pattern, so that tests may tell patterns as RegexText does.
func cells(text string) []impl.ReCell {
	var r []impl.ReCell
	for _, word := range strings.Fields(text) {
		c, ok := plainWords[word]
		if !ok {
			n, err := strconv.Atoi(word)
			if err != nil {
				panic(word)
			}
			c = oneCell(n)
		}
		r = append(r, c)
	}
	return r
}

func textOf(r []impl.ReCell) string {
	var words []string
	for _, c := range r {
		word := strconv.Itoa(c.N)
		for name, plain := range plainWords {
			if c == plain {
				word = name
			}
		}
		words = append(words, word)
	}
	return strings.Join(words, " ")
}

func TestLimitsOfPatternsAreAsSaid(t *testing.T) {
	if impl.MaxRegex != mostCells || impl.MaxNfa != mostStates || impl.MaxPath != longestPath || impl.MaxAsn != lastAsn {
		t.Error(impl.MaxRegex, impl.MaxNfa, impl.MaxPath, impl.MaxAsn)
	}
	kinds := []int{impl.ReNone, impl.ReEmpty, impl.ReOne, impl.ReAny, impl.ReThen, impl.ReOr, impl.ReStar}
	if !slices.Equal(kinds, []int{1, 2, 3, 4, 5, 6, 7}) {
		t.Error(kinds)
	}
}

func partsOfKind(kind int) int {
	return map[int]int{impl.ReThen: 2, impl.ReOr: 2, impl.ReStar: 1}[kind]
}

// behindPart is the place behind the pattern that begins at a place.
func behindPart(r []impl.ReCell, at int) int {
	for needed := 1; needed > 0; at++ {
		needed += partsOfKind(r[at].Kind) - 1
	}
	return at
}

// matcher goes by the document's words: it tries each cut of the path; what was asked once is kept.
type matcher struct {
	r    []impl.ReCell
	path []int
	said map[[3]int]bool
}

func matchByWords(r []impl.ReCell, path []int) bool {
	m := matcher{r: r, path: path, said: map[[3]int]bool{}}
	return m.isRow(0, 0, len(path))
}

func (m matcher) isRow(at, from, to int) bool {
	key := [3]int{at, from, to}
	is, known := m.said[key]
	if !known {
		is = m.tryRow(at, from, to)
		m.said[key] = is
	}
	return is
}

func (m matcher) tryRow(at, from, to int) bool {
	switch c := m.r[at]; c.Kind {
	case impl.ReEmpty:
		return from == to
	case impl.ReOne:
		return to == from+1 && m.path[from] == c.N
	case impl.ReAny:
		return to == from+1
	case impl.ReOr:
		return m.isRow(at+1, from, to) || m.isRow(behindPart(m.r, at+1), from, to)
	case impl.ReThen:
		for cut := from; cut <= to; cut++ {
			if m.isRow(at+1, from, cut) && m.isRow(behindPart(m.r, at+1), cut, to) {
				return true
			}
		}
	case impl.ReStar:
		for cut := from + 1; cut <= to; cut++ {
			if m.isRow(at+1, from, cut) && m.isRow(at, cut, to) {
				return true
			}
		}
		return from == to
	}
	return false
}

// folded is what is known of a part when the cells are gone through from the last one on, so that a cell's parts are known ahead of it.
type folded struct {
	cells   []impl.ReCell
	derived []impl.ReCell
	empty   bool
}

func foldBack(r []impl.ReCell, join func(c impl.ReCell, parts []folded) folded) folded {
	var stack []folded
	for _, c := range slices.Backward(r) {
		many := len(stack) - partsOfKind(c.Kind)
		parts := slices.Clone(stack[many:])
		slices.Reverse(parts)
		stack = append(stack[:many], join(c, parts))
	}
	return stack[0]
}

func tidyByWords(r []impl.ReCell) []impl.ReCell {
	return foldBack(r, tidyOne).cells
}

func tidyOne(c impl.ReCell, parts []folded) folded {
	is := func(i int, c impl.ReCell) bool { return slices.Equal(parts[i].cells, []impl.ReCell{c}) }
	plain := func(c impl.ReCell) folded { return folded{cells: []impl.ReCell{c}} }
	switch c.Kind {
	case impl.ReThen:
		if is(0, noneCell) || is(1, noneCell) {
			return plain(noneCell)
		}
		if is(0, emptyCell) {
			return parts[1]
		}
		if is(1, emptyCell) {
			return parts[0]
		}
	case impl.ReOr:
		if is(0, noneCell) {
			return parts[1]
		}
		if is(1, noneCell) || slices.Equal(parts[0].cells, parts[1].cells) {
			return parts[0]
		}
	case impl.ReStar:
		if is(0, noneCell) || is(0, emptyCell) {
			return plain(emptyCell)
		}
		if parts[0].cells[0] == starCell {
			return parts[0]
		}
	}
	all := []impl.ReCell{c}
	for _, p := range parts {
		all = append(all, p.cells...)
	}
	return folded{cells: all}
}

// deriveByWords has no bound; what is derived is told as it stands, and tidy.
func deriveByWords(r []impl.ReCell, n int) (raw, tidied []impl.ReCell) {
	one := func(c impl.ReCell, parts []folded) folded { return deriveOne(c, n, parts) }
	raw = foldBack(r, one).derived
	return raw, tidyByWords(raw)
}

func deriveOne(c impl.ReCell, n int, parts []folded) folded {
	own := []impl.ReCell{c}
	for _, p := range parts {
		own = append(own, p.cells...)
	}
	row := func(l ...[]impl.ReCell) []impl.ReCell { return slices.Concat(l...) }
	op := func(c impl.ReCell) []impl.ReCell { return []impl.ReCell{c} }
	switch c.Kind {
	case impl.ReEmpty:
		return folded{own, op(noneCell), true}
	case impl.ReOne:
		if c.N == n {
			return folded{own, op(emptyCell), false}
		}
	case impl.ReAny:
		return folded{own, op(emptyCell), false}
	case impl.ReOr:
		return folded{own, row(op(orCell), parts[0].derived, parts[1].derived), parts[0].empty || parts[1].empty}
	case impl.ReStar:
		return folded{own, row(op(thenCell), parts[0].derived, own), true}
	case impl.ReThen:
		left := row(op(thenCell), parts[0].derived, parts[1].cells)
		if parts[0].empty {
			left = row(op(orCell), left, parts[1].derived)
		}
		return folded{own, left, parts[0].empty && parts[1].empty}
	}
	return folded{own, op(noneCell), false}
}

func free(from, to int) impl.NfaEdge {
	return impl.NfaEdge{From: from, To: to, Free: true}
}

func anyEdge(from, to int) impl.NfaEdge {
	return impl.NfaEdge{From: from, To: to, Any: true}
}

func edgeBy(from, to, n int) impl.NfaEdge {
	return impl.NfaEdge{From: from, To: to, N: n}
}

func nfaByWords(r []impl.ReCell) impl.Nfa {
	var l []impl.NfaEdge
	for k, c := range r {
		s, e := 2*k, 2*k+1
		fs, fe := 2*(k+1), 2*(k+1)+1
		switch c.Kind {
		case impl.ReEmpty:
			l = append(l, free(s, e))
		case impl.ReOne:
			l = append(l, edgeBy(s, e, c.N))
		case impl.ReAny:
			l = append(l, anyEdge(s, e))
		case impl.ReStar:
			l = append(l, free(s, e), free(s, fs), free(fe, e), free(fe, fs))
		case impl.ReThen:
			at := 2 * behindPart(r, k+1)
			l = append(l, free(s, fs), free(fe, at), free(at+1, e))
		case impl.ReOr:
			at := 2 * behindPart(r, k+1)
			l = append(l, free(s, fs), free(s, at), free(fe, e), free(at+1, e))
		}
	}
	return impl.Nfa{States: 2 * len(r), Start: 0, End: 1, Edges: l}
}

func sameNfa(a, b impl.Nfa) bool {
	return a.States == b.States && a.Start == b.Start && a.End == b.End && slices.Equal(a.Edges, b.Edges)
}

func isZeroNfa(n impl.Nfa) bool {
	return sameNfa(n, impl.Nfa{})
}

// runByWords looks for all pairs of a state and a place of the path that can be come to, one by one.
func runByWords(n impl.Nfa, path []int) (bool, int) {
	type pair struct{ state, place int }
	seen := map[pair]int{{n.Start, 0}: 1}
	work := []pair{{n.Start, 0}}
	for len(work) > 0 {
		p := work[0]
		work = work[1:]
		for _, e := range n.Edges {
			next := pair{e.To, p.place}
			if !e.Free {
				if p.place == len(path) || !e.Any && e.N != path[p.place] {
					continue
				}
				next.place++
			}
			if e.From == p.state && seen[next] == 0 {
				seen[next] = 1
				work = append(work, next)
			}
		}
	}
	held := make([]int, len(path)+1)
	for p := range seen {
		held[p.place]++
	}
	return seen[pair{n.End, len(path)}] == 1, slices.Max(held)
}

var smallLeaves = []impl.ReCell{noneCell, emptyCell, oneCell(3), oneCell(4), anyCell}

// smallPatterns has all patterns of 1 to most cells with these leaves, by how many cells they have.
func smallPatterns(most int) [][][]impl.ReCell {
	by := make([][][]impl.ReCell, most+1)
	for _, c := range smallLeaves {
		by[1] = append(by[1], []impl.ReCell{c})
	}
	for many := 2; many <= most; many++ {
		for _, r := range by[many-1] {
			by[many] = append(by[many], append([]impl.ReCell{starCell}, r...))
		}
		for first := 1; first < many-1; first++ {
			for _, a := range by[first] {
				for _, b := range by[many-1-first] {
					by[many] = append(by[many], slices.Concat([]impl.ReCell{thenCell}, a, b), slices.Concat([]impl.ReCell{orCell}, a, b))
				}
			}
		}
	}
	return by
}

func mixedLeaf(r *rand.Rand) impl.ReCell {
	leaves := []impl.ReCell{noneCell, emptyCell, oneCell(3), oneCell(3), oneCell(4), oneCell(1), oneCell(lastAsn), anyCell, anyCell}
	return leaves[r.Intn(len(leaves))]
}

func mixedPattern(many int, r *rand.Rand) []impl.ReCell {
	if many == 1 {
		return []impl.ReCell{mixedLeaf(r)}
	}
	if many == 2 || r.Intn(4) == 0 {
		return append([]impl.ReCell{starCell}, mixedPattern(many-1, r)...)
	}
	first := 1 + r.Intn(many-2)
	both := append(mixedPattern(first, r), mixedPattern(many-1-first, r)...)
	if r.Intn(2) == 0 {
		return append([]impl.ReCell{thenCell}, both...)
	}
	return append([]impl.ReCell{orCell}, both...)
}

// mixedPatterns has many for each count of cells, the greatest one too.
func mixedPatterns(each int, seed int64) [][]impl.ReCell {
	r := rand.New(rand.NewSource(seed))
	var l [][]impl.ReCell
	for many := 1; many <= mostCells; many++ {
		for range each {
			l = append(l, mixedPattern(many, r))
		}
	}
	return l
}

// repeated is one cell as often as said, with what it is of behind it.
func repeated(c impl.ReCell, many int, behind string) []impl.ReCell {
	return append(slices.Repeat([]impl.ReCell{c}, many), cells(behind)...)
}

// deepPatterns have many cells within one another, to the left, to the right and by stars, up to the greatest count.
func deepPatterns() [][]impl.ReCell {
	l := [][]impl.ReCell{
		repeated(starCell, mostCells-1, "3"),
		repeated(starCell, mostCells-1, "any"),
		repeated(starCell, mostCells-1, "empty"),
		repeated(starCell, mostCells-1, "none"),
		repeated(starCell, mostCells-3, "or 3 4"),
		repeated(starCell, mostCells-3, "then 3 any"),
	}
	for _, c := range []impl.ReCell{thenCell, orCell} {
		for _, leaf := range []string{"3", "any", "empty", "none"} {
			l = append(l, repeated(c, 14, strings.Repeat(leaf+" ", 15)))
			l = append(l, append(slices.Repeat([]impl.ReCell{c, cells(leaf)[0]}, 14), cells(leaf)...))
			l = append(l, repeated(c, 14, strings.Repeat(leaf+" ", 14)+"star 4"))
		}
	}
	l = append(l, append(slices.Repeat([]impl.ReCell{starCell, thenCell, oneCell(3)}, 9), cells("or 3 any")...))
	l = append(l, append(slices.Repeat([]impl.ReCell{starCell, orCell, oneCell(4), thenCell, starCell, anyCell}, 4), cells("then 3 4")...))
	return l
}

// kindPatterns has each kind of cell, alone and with others within.
func kindPatterns() [][]impl.ReCell {
	var l [][]impl.ReCell
	for _, text := range []string{
		"none", "empty", "1", "3", "65535", "any", "then 3 4", "or 3 4", "star 3", "star none", "star empty", "star any", "star star 3",
		"then none 3", "then 3 none", "then empty 3", "then 3 empty", "or none 3", "or 3 none", "or 3 3", "or empty 3",
		"then star 3 or 4 any", "star then 3 4", "star or 3 then 4 4", "then star any then 3 star any", "or then 3 star 4 then 4 star 3",
		"then then 3 4 then 4 3", "then star 3 star 3", "star then star 3 star 4", "then or empty 3 or empty 3",
	} {
		l = append(l, cells(text))
	}
	return l
}

func goodPatterns() [][]impl.ReCell {
	return slices.Concat(kindPatterns(), deepPatterns(), mixedPatterns(6, 6))
}

func allPaths(most int, numbers ...int) [][]int {
	l := [][]int{nil}
	for from := 0; most > 0; most-- {
		to := len(l)
		for _, path := range l[from:to] {
			for _, n := range numbers {
				l = append(l, append(slices.Clone(path), n))
			}
		}
		from = to
	}
	return l
}

func mixedPath(many int, r *rand.Rand) []int {
	path := make([]int, many)
	for i := range path {
		path[i] = []int{3, 3, 3, 4, 4, 1, lastAsn, 7}[r.Intn(8)]
	}
	return path
}

// aRowOf is a row of the pattern at a place, where one is found.
func aRowOf(r []impl.ReCell, at int, rd *rand.Rand) ([]int, bool) {
	switch c := r[at]; c.Kind {
	case impl.ReEmpty:
		return nil, true
	case impl.ReOne:
		return []int{c.N}, true
	case impl.ReAny:
		return mixedPath(1, rd), true
	case impl.ReThen:
		a, ok := aRowOf(r, at+1, rd)
		b, is := aRowOf(r, behindPart(r, at+1), rd)
		return append(a, b...), ok && is
	case impl.ReOr:
		a, ok := aRowOf(r, at+1, rd)
		b, is := aRowOf(r, behindPart(r, at+1), rd)
		if ok && (!is || rd.Intn(2) == 0) {
			return a, true
		}
		return b, is
	case impl.ReStar:
		var all []int
		for range rd.Intn(3) {
			row, ok := aRowOf(r, at+1, rd)
			if ok && len(all)+len(row) <= longestPath {
				all = append(all, row...)
			}
		}
		return all, true
	}
	return nil, false
}

// pathsFor has paths of none to as many numbers as there may be, rows of the pattern among them, and such as are nearly one.
func pathsFor(p []impl.ReCell, r *rand.Rand) [][]int {
	l := [][]int{nil, {}, slices.Repeat([]int{3}, longestPath), slices.Repeat([]int{4}, longestPath)}
	for many := range longestPath + 1 {
		l = append(l, mixedPath(many, r))
	}
	for range 12 {
		row, ok := aRowOf(p, 0, r)
		if !ok || len(row) > longestPath {
			continue
		}
		l = append(l, row)
		if len(row) > 0 {
			other := slices.Clone(row)
			other[r.Intn(len(row))] = mixedPath(1, r)[0]
			l = append(l, other, row[1:], row[:len(row)-1])
		}
	}
	return l
}

// lookAtDerived goes on number by number; where that leads to too long a pattern DeriveBy must have said so.
func lookAtDerived(t *testing.T, r []impl.ReCell, path []int, want bool) {
	t.Helper()
	left := r
	for _, n := range path {
		_, byWords := deriveByWords(left, n)
		next, ok := impl.DeriveBy(left, n)
		if ok != (len(byWords) <= mostCells) {
			t.Fatalf("DeriveBy(%s, %d) = %s, %v; %d cells", textOf(left), n, textOf(next), ok, len(byWords))
		}
		if !ok {
			return
		}
		left = next
	}
	if is, ok := impl.TakesEmpty(left); is != want || !ok {
		t.Errorf("%s by %v is %s: takes the empty row: %v, %v, not %v", textOf(r), path, textOf(left), is, ok, want)
	}
}

func lookAtPattern(t *testing.T, r []impl.ReCell, paths [][]int) (rows int) {
	t.Helper()
	n, ok := impl.BuildNfa(r)
	tidied, is := impl.TidyRegex(r)
	if !ok || !is || !impl.GoodRegex(r) || !impl.GoodNfa(n) || !impl.GoodRegex(tidied) {
		t.Fatalf("%s: %v, %v, %v, %v", textOf(r), n, ok, textOf(tidied), is)
	}
	for _, path := range paths {
		want := matchByWords(r, path)
		if want {
			rows++
		}
		if is, ok := impl.MatchPath(r, path); is != want || !ok {
			t.Errorf("MatchPath(%s, %v) = %v, %v, not %v", textOf(r), path, is, ok, want)
		}
		_, most := runByWords(nfaByWords(r), path)
		if is, held, ok := impl.RunNfa(n, path); is != want || held != most || !ok {
			t.Errorf("RunNfa of %s, %v = %v, %v, %v, not %v, %v", textOf(r), path, is, held, ok, want, most)
		}
		if is, ok := impl.MatchPath(tidied, path); is != want || !ok {
			t.Errorf("%s, tidy %s: MatchPath of %v = %v, %v, not %v", textOf(r), textOf(tidied), path, is, ok, want)
		}
		lookAtDerived(t, r, path, want)
	}
	return rows
}

func TestPatternMachineAndWhatIsLeftTellTheSameOfSmallPatterns(t *testing.T) {
	short, shorter := allPaths(4, 3, 4, 7), allPaths(2, 3, 4, 7)
	for many, l := range smallPatterns(5) {
		paths := short
		if many == 5 {
			paths = shorter
		}
		for _, r := range l {
			lookAtPattern(t, r, paths)
		}
	}
}

func TestPatternMachineAndWhatIsLeftTellTheSameOfGreaterPatterns(t *testing.T) {
	rd := rand.New(rand.NewSource(66))
	all, rows := 0, 0
	for _, r := range slices.Concat(goodPatterns(), mixedPatterns(12, 67)) {
		paths := pathsFor(r, rd)
		all += len(paths)
		rows += lookAtPattern(t, r, paths)
	}
	if rows < all/10 || rows > all-all/10 {
		t.Errorf("%d of %d paths are rows: too few, or too many, to tell them apart", rows, all)
	}
}

func TestPatternsThatAreKnown(t *testing.T) {
	ten := slices.Repeat([]int{3}, longestPath)
	for _, k := range []struct {
		text string
		path []int
		want bool
	}{
		{"none", nil, false}, {"none", []int{3}, false},
		{"empty", nil, true}, {"empty", []int{3}, false},
		{"3", []int{3}, true}, {"3", []int{4}, false}, {"3", nil, false}, {"3", []int{3, 3}, false},
		{"1", []int{1}, true}, {"65535", []int{65535}, true}, {"65535", []int{1}, false},
		{"any", []int{1}, true}, {"any", []int{65535}, true}, {"any", nil, false}, {"any", []int{1, 2}, false},
		{"then 3 4", []int{3, 4}, true}, {"then 3 4", []int{4, 3}, false}, {"then 3 4", []int{3}, false}, {"then 3 4", []int{3, 4, 4}, false},
		{"or 3 4", []int{3}, true}, {"or 3 4", []int{4}, true}, {"or 3 4", []int{5}, false}, {"or 3 4", nil, false},
		{"or empty 4", nil, true}, {"or 4 empty", nil, true}, {"or none none", nil, false},
		{"star 3", nil, true}, {"star 3", ten, true}, {"star 3", append(ten[:9:9], 4), false}, {"star 3", append([]int{4}, ten[:9]...), false},
		{"star none", nil, true}, {"star none", []int{3}, false}, {"star empty", nil, true}, {"star empty", []int{3}, false},
		{"star then 3 4", []int{3, 4, 3, 4}, true}, {"star then 3 4", []int{3, 4, 3}, false}, {"star then 3 3", ten[:9], false}, {"star then 3 3", ten, true},
		{"then star any 4", []int{4, 4, 3, 4}, true}, {"then star any 4", []int{4, 4, 3}, false},
		{"then star any then 7 star any", []int{1, 2, 7, 3}, true}, {"then star any then 7 star any", []int{1, 2, 3}, false},
		{"then star 3 star 3", ten, true}, {"then none star any", nil, false}, {"then star any none", ten, false},
		{"star star star 3", ten, true}, {"star or 3 empty", ten, true}, {"star star empty", []int{3}, false},
	} {
		r := cells(k.text)
		if is, ok := impl.MatchPath(r, k.path); is != k.want || !ok {
			t.Errorf("MatchPath(%s, %v) = %v, %v", k.text, k.path, is, ok)
		}
		lookAtPattern(t, r, [][]int{k.path})
	}
}

func TestTakesEmptyIsMatchPathOfTheEmptyPath(t *testing.T) {
	for _, r := range slices.Concat(slices.Concat(smallPatterns(6)...), goodPatterns()) {
		is, ok := impl.TakesEmpty(r)
		match, fine := impl.MatchPath(r, nil)
		if is != match || is != matchByWords(r, nil) || !ok || !fine {
			t.Errorf("%s: %v, %v; %v, %v", textOf(r), is, ok, match, fine)
		}
	}
	for text, want := range map[string]bool{
		"none": false, "empty": true, "3": false, "any": false, "star 3": true, "star none": true,
		"then empty empty": true, "then empty 3": false, "then 3 empty": false, "then star 3 star 4": true, "then star 3 none": false,
		"or 3 empty": true, "or empty 3": true, "or 3 4": false, "or none star none": true,
	} {
		if is, ok := impl.TakesEmpty(cells(text)); is != want || !ok {
			t.Errorf("TakesEmpty(%s) = %v, %v", text, is, ok)
		}
	}
}

func TestTidyIsNoLongerAndItselfWhenTidiedAgain(t *testing.T) {
	for _, r := range slices.Concat(slices.Concat(smallPatterns(6)...), goodPatterns(), mixedPatterns(60, 68)) {
		tidied, ok := impl.TidyRegex(r)
		if !ok || len(tidied) > len(r) || !impl.GoodRegex(tidied) || !slices.Equal(tidied, tidyByWords(r)) {
			t.Errorf("TidyRegex(%s) = %s, %v, not %s", textOf(r), textOf(tidied), ok, textOf(tidyByWords(r)))
		}
		if again, ok := impl.TidyRegex(tidied); !slices.Equal(again, tidied) || !ok {
			t.Errorf("TidyRegex(%s) = %s, %v", textOf(tidied), textOf(again), ok)
		}
	}
}

func TestEachRuleOfTidyRegex(t *testing.T) {
	for text, want := range map[string]string{
		"none": "none", "empty": "empty", "3": "3", "any": "any", "then 3 4": "then 3 4", "or 3 4": "or 3 4", "star 3": "star 3",
		"then none 3": "none", "then 3 none": "none", "then none none": "none", "then none empty": "none", "then empty none": "none",
		"then empty 3": "3", "then 3 empty": "3", "then empty empty": "empty", "then empty star 3": "star 3", "then star 3 empty": "star 3",
		"or none 3": "3", "or 3 none": "3", "or none none": "none", "or none empty": "empty", "or empty none": "empty", "or none star 3": "star 3",
		"or 3 3": "3", "or any any": "any", "or empty empty": "empty", "or then 3 4 then 3 4": "then 3 4", "or star 3 star 3": "star 3",
		"or 3 any": "or 3 any", "or any 3": "or any 3", "or empty 3": "or empty 3", "or 4 3": "or 4 3", "or empty star 3": "or empty star 3",
		"or then 3 4 then 4 3": "or then 3 4 then 4 3", "or 3 or 3 4": "or 3 or 3 4", "or or 3 4 or 4 3": "or or 3 4 or 4 3", "or 3 or 4 3": "or 3 or 4 3",
		"star none": "empty", "star empty": "empty", "star star 3": "star 3", "star any": "star any", "star star star 3": "star 3",
		"then 3 3": "then 3 3", "then star 3 star 3": "then star 3 star 3", "star or empty 3": "star or empty 3", "star then star 3 star 4": "star then star 3 star 4",
		"then then 3 4 any": "then then 3 4 any", "then 3 then 4 any": "then 3 then 4 any",
	} {
		lookAtTidy(t, text, want)
	}
}

func lookAtTidy(t *testing.T, text, want string) {
	t.Helper()
	if r, ok := impl.TidyRegex(cells(text)); textOf(r) != want || !ok {
		t.Errorf("TidyRegex(%s) = %s, %v, not %s", text, textOf(r), ok, want)
	}
}

func TestTidyRegexFromTheInnerOnesOn(t *testing.T) {
	for text, want := range map[string]string{
		"star or none empty":              "empty",
		"star then none 3":                "empty",
		"star then empty star 3":          "star 3",
		"star or star 3 none":             "star 3",
		"then then 3 none 4":              "none",
		"then star none 3":                "3",
		"then 3 star empty":               "3",
		"or then none 3 4":                "4",
		"or 4 then 3 none":                "4",
		"or then empty 3 then 3 empty":    "3",
		"or or 3 3 or none 3":             "3",
		"or star star 3 star 3":           "star 3",
		"or star none star empty":         "empty",
		"or then none 3 or none none":     "none",
		"then or none none star 3":        "none",
		"then 3 then empty then 4 empty":  "then 3 4",
		"star then 3 then none 4":         "empty",
		"or then 3 or 4 4 then or 3 3 4":  "then 3 4",
		"then or empty empty or 3 none":   "3",
		"star star or star star 3 star 3": "star 3",
	} {
		lookAtTidy(t, text, want)
	}
	lookAtTidy(t, textOf(repeated(starCell, 29, "none")), "empty")
	lookAtTidy(t, textOf(repeated(starCell, 29, "any")), "star any")
	lookAtTidy(t, textOf(repeated(thenCell, 14, strings.Repeat("empty ", 14)+"7")), "7")
	lookAtTidy(t, textOf(repeated(thenCell, 14, strings.Repeat("3 ", 14)+"none")), "none")
	lookAtTidy(t, textOf(repeated(orCell, 14, strings.Repeat("3 ", 15))), "3")
	lookAtTidy(t, textOf(repeated(thenCell, 14, strings.Repeat("3 ", 15))), textOf(repeated(thenCell, 14, strings.Repeat("3 ", 15))))
}

func lookAtDerive(t *testing.T, text string, n int, want string) {
	t.Helper()
	if r, ok := impl.DeriveBy(cells(text), n); textOf(r) != want || !ok {
		t.Errorf("DeriveBy(%s, %d) = %s, %v, not %s", text, n, textOf(r), ok, want)
	}
}

func TestEachRuleOfDeriveBy(t *testing.T) {
	for text, want := range map[string]string{
		"none": "none", "empty": "none", "3": "empty", "4": "none", "any": "empty",
		"or 3 4": "empty", "or 4 3": "empty", "or 4 5": "none", "or 3 any": "empty",
		"or then 3 4 then 3 5": "or 4 5", "or then 3 4 then 4 5": "4", "or then 3 5 then 3 4": "or 5 4", "or then 3 4 3": "or 4 empty",
		"star 3": "star 3", "star 4": "none", "star any": "star any", "star none": "none", "star empty": "none",
		"star then 3 4": "then 4 star then 3 4", "star or 3 4": "star or 3 4", "star then 4 3": "none", "star star 3": "then star 3 star 3",
		"then 3 4": "4", "then 4 3": "none", "then any 4": "4", "then 3 empty": "empty", "then 3 none": "none", "then none 3": "none", "then 3 star 3": "star 3",
		"then empty 3": "empty", "then empty 4": "none", "then star 4 3": "empty", "then star 4 then 3 5": "5",
		"then star 3 4": "then star 3 4", "then star 3 3": "or then star 3 3 empty", "then star 3 any": "or then star 3 any empty",
		"then star 3 star 3": "or then star 3 star 3 star 3", "then or empty 3 4": "4", "then or empty 3 3": "or 3 empty",
		"then then 3 4 5": "then 4 5", "then 3 then 4 5": "then 4 5", "then then star 3 star 4 3": "or then then star 3 star 4 3 empty",
	} {
		lookAtDerive(t, text, 3, want)
	}
}

func TestDeriveByGivesATidyPattern(t *testing.T) {
	for text, want := range map[string]string{
		"then 3 then empty 4":               "4",
		"then 3 star star 5":                "star 5",
		"then 3 or 5 5":                     "5",
		"then 3 then 4 none":                "none",
		"or then 3 4 then 3 or 4 4":         "4",
		"or then 4 5 then 3 6":              "6",
		"star star star 3":                  "then then star 3 star 3 star 3",
		"then star 4 then 3 star or none 5": "star 5",
	} {
		lookAtDerive(t, text, 3, want)
	}
	for _, n := range []int{1, 2, 65534, lastAsn} {
		lookAtDerive(t, "any", n, "empty")
		lookAtDerive(t, strconv.Itoa(n), n, "empty")
		lookAtDerive(t, strconv.Itoa(n), 3, "none")
	}
	for _, r := range slices.Concat(slices.Concat(smallPatterns(6)...), goodPatterns(), mixedPatterns(60, 69)) {
		for _, n := range []int{1, 3, 4, 7, lastAsn} {
			_, want := deriveByWords(r, n)
			if len(want) > mostCells {
				want = nil
			}
			got, ok := impl.DeriveBy(r, n)
			if !slices.Equal(got, want) || ok != (want != nil) {
				t.Errorf("DeriveBy(%s, %d) = %s, %v, not %s", textOf(r), n, textOf(got), ok, textOf(want))
			}
			if tidied, _ := impl.TidyRegex(got); !slices.Equal(tidied, got) {
				t.Errorf("DeriveBy(%s, %d) = %s is not tidy", textOf(r), n, textOf(got))
			}
		}
	}
}

// rowPattern is a pattern of numbers one behind the other, of 2 many - 1 cells.
func rowPattern(n, many int) string {
	return strings.Repeat("then "+strconv.Itoa(n)+" ", many-1) + strconv.Itoa(n)
}

func TestWhatIsDerivedMayBeTooLong(t *testing.T) {
	for _, k := range []struct {
		text string
		long int
	}{
		{"star then 3 " + rowPattern(5, 6), 26},
		{"star then 3 " + rowPattern(5, 7), 30},
		{"star then 3 " + rowPattern(5, 8), 34},
		{"then star 3 or star 4 then 3 " + rowPattern(5, 5), 27},
		{"then star 3 or star 4 then 3 " + rowPattern(5, 6), 31},
		{"then star 3 or star 4 then 3 " + rowPattern(5, 11), 51},
		{"then star any then 3 " + rowPattern(3, 12), 52},
	} {
		r := cells(k.text)
		_, want := deriveByWords(r, 3)
		if len(want) != k.long || len(r) > mostCells {
			t.Fatalf("%s: %d cells, derived %d, not %d", k.text, len(r), len(want), k.long)
		}
		if k.long > mostCells {
			want = nil
		}
		if got, ok := impl.DeriveBy(r, 3); !slices.Equal(got, want) || ok != (k.long <= mostCells) {
			t.Errorf("DeriveBy(%s, 3) = %s, %v", k.text, textOf(got), ok)
		}
	}
}

// What stands ahead of tidying may be longer than a pattern: the bound is asked of what is tidy.
func TestWhatIsDerivedIsTidiedAheadOfItsBound(t *testing.T) {
	for _, text := range []string{
		textOf(repeated(starCell, 29, "4")),
		"or " + rowPattern(5, 7) + " star then 4 " + rowPattern(5, 7),
		"then star 4 " + rowPattern(3, 13),
	} {
		r := cells(text)
		raw, want := deriveByWords(r, 3)
		if len(r) > mostCells || len(raw) <= mostCells || len(want) > mostCells {
			t.Fatalf("%s: %d cells, derived %d, tidy %d", text, len(r), len(raw), len(want))
		}
		lookAtDerive(t, text, 3, textOf(want))
	}
}

func badAsns() []int {
	return []int{0, -1, -3, lastAsn + 1, lastAsn + 4, 1<<16 + 3, 1<<32 + 3, math.MinInt, math.MaxInt}
}

func TestDeriveByOfANumberThatIsNone(t *testing.T) {
	for _, n := range badAsns() {
		for _, r := range kindPatterns() {
			if got, ok := impl.DeriveBy(r, n); len(got) != 0 || ok {
				t.Errorf("DeriveBy(%s, %d) = %s, %v", textOf(r), n, textOf(got), ok)
			}
		}
	}
}

func TestRegexText(t *testing.T) {
	for text, r := range map[string][]impl.ReCell{
		"none":                 {{Kind: 1}},
		"empty":                {{Kind: 2}},
		"1":                    {{Kind: 3, N: 1}},
		"10":                   {{Kind: 3, N: 10}},
		"65535":                {{Kind: 3, N: 65535}},
		"any":                  {{Kind: 4}},
		"then 3 4":             {{Kind: 5}, {Kind: 3, N: 3}, {Kind: 3, N: 4}},
		"or any empty":         {{Kind: 6}, {Kind: 4}, {Kind: 2}},
		"star none":            {{Kind: 7}, {Kind: 1}},
		"then star 3 or 4 any": {{Kind: 5}, {Kind: 7}, {Kind: 3, N: 3}, {Kind: 6}, {Kind: 3, N: 4}, {Kind: 4}},
	} {
		if s, ok := impl.RegexText(r); s != text || !ok {
			t.Errorf("RegexText(%v) = %q, %v, not %q", r, s, ok, text)
		}
	}
	for _, r := range goodPatterns() {
		if s, ok := impl.RegexText(r); s != textOf(r) || !ok || !slices.Equal(cells(s), r) {
			t.Errorf("RegexText(%v) = %q, %v", r, s, ok)
		}
	}
}

func TestBuildNfaOfEachKind(t *testing.T) {
	for text, edges := range map[string][]impl.NfaEdge{
		"none":      nil,
		"empty":     {free(0, 1)},
		"3":         {edgeBy(0, 1, 3)},
		"65535":     {edgeBy(0, 1, 65535)},
		"any":       {anyEdge(0, 1)},
		"then 3 4":  {free(0, 2), free(3, 4), free(5, 1), edgeBy(2, 3, 3), edgeBy(4, 5, 4)},
		"or 3 4":    {free(0, 2), free(0, 4), free(3, 1), free(5, 1), edgeBy(2, 3, 3), edgeBy(4, 5, 4)},
		"star 3":    {free(0, 1), free(0, 2), free(3, 1), free(3, 2), edgeBy(2, 3, 3)},
		"star none": {free(0, 1), free(0, 2), free(3, 1), free(3, 2)},
		"then star any empty": {
			free(0, 2), free(3, 6), free(7, 1),
			free(2, 3), free(2, 4), free(5, 3), free(5, 4),
			anyEdge(4, 5), free(6, 7)},
		"then star 3 or 4 any": {
			free(0, 2), free(3, 6), free(7, 1),
			free(2, 3), free(2, 4), free(5, 3), free(5, 4), edgeBy(4, 5, 3),
			free(6, 8), free(6, 10), free(9, 7), free(11, 7), edgeBy(8, 9, 4), anyEdge(10, 11)},
		"or or 3 none then any 4": {
			free(0, 2), free(0, 8), free(3, 1), free(9, 1),
			free(2, 4), free(2, 6), free(5, 3), free(7, 3), edgeBy(4, 5, 3),
			free(8, 10), free(11, 12), free(13, 9), anyEdge(10, 11), edgeBy(12, 13, 4)},
	} {
		r := cells(text)
		want := impl.Nfa{States: 2 * len(r), End: 1, Edges: edges}
		if n, ok := impl.BuildNfa(r); !sameNfa(n, want) || !ok || !impl.GoodNfa(n) {
			t.Errorf("BuildNfa(%s) = %v, %v, not %v", text, n, ok, want)
		}
	}
}

func TestBuildNfaGoesByItsWords(t *testing.T) {
	for _, r := range slices.Concat(slices.Concat(smallPatterns(5)...), goodPatterns(), mixedPatterns(40, 70)) {
		if n, ok := impl.BuildNfa(r); !sameNfa(n, nfaByWords(r)) || !ok || !impl.GoodNfa(n) {
			t.Errorf("BuildNfa(%s) = %v, %v, not %v", textOf(r), n, ok, nfaByWords(r))
		}
	}
}

// wideNfa has as many states and edges as there may be, with each kind of edge.
func wideNfa() impl.Nfa {
	n := impl.Nfa{States: mostStates, Start: mostStates - 1, End: 0}
	for i := range mostEdges {
		from, to := i%mostStates, (i*7+3)%mostStates
		n.Edges = append(n.Edges, []impl.NfaEdge{free(from, to), anyEdge(from, to), edgeBy(from, to, 1), edgeBy(from, to, lastAsn)}[i%4])
	}
	return n
}

func mixedNfa(r *rand.Rand) impl.Nfa {
	states := 1 + r.Intn([]int{2, 6, mostStates}[r.Intn(3)])
	n := impl.Nfa{States: states, Start: r.Intn(states), End: r.Intn(states)}
	for range r.Intn(min(mostEdges, 3*states) + 1) {
		from, to := r.Intn(states), r.Intn(states)
		n.Edges = append(n.Edges, []impl.NfaEdge{free(from, to), anyEdge(from, to), edgeBy(from, to, 3), edgeBy(from, to, 4)}[r.Intn(4)])
	}
	return n
}

func goodNfas() []impl.Nfa {
	l := []impl.Nfa{{States: 1}, {States: 2, Start: 1}, {States: 2, End: 1}, {States: mostStates, Start: mostStates - 1, End: mostStates - 1}, wideNfa()}
	l = append(l, impl.Nfa{States: 1, Edges: slices.Repeat([]impl.NfaEdge{free(0, 0), anyEdge(0, 0)}, mostEdges/2)})
	for _, r := range goodPatterns() {
		l = append(l, nfaByWords(r))
	}
	r := rand.New(rand.NewSource(71))
	for range 300 {
		l = append(l, mixedNfa(r))
	}
	return l
}

func badNfas() map[string]impl.Nfa {
	more := wideNfa()
	more.Edges = append(more.Edges, free(0, 1))
	many := impl.Nfa{States: 2, Edges: slices.Repeat([]impl.NfaEdge{free(0, 1)}, 5000)}
	all := map[string]impl.Nfa{"nothing": {}, "too many edges": more, "far too many edges": many}
	for _, states := range []int{0, -1, -mostStates, mostStates + 1, 1000, math.MinInt, math.MaxInt} {
		all["states "+strconv.Itoa(states)] = impl.Nfa{States: states}
		all["states of the wide one "+strconv.Itoa(states)] = impl.Nfa{States: states, Edges: wideNfa().Edges}
	}
	for _, state := range []int{-1, -5, 5, 6, mostStates, math.MinInt, math.MaxInt} {
		name := strconv.Itoa(state)
		all["start "+name] = impl.Nfa{States: 5, Start: state}
		all["end "+name] = impl.Nfa{States: 5, End: state}
		for _, e := range []impl.NfaEdge{free(state, 1), free(1, state), anyEdge(state, 1), anyEdge(1, state), edgeBy(state, 1, 3), edgeBy(1, state, 3)} {
			all["edge "+name+" "+strconv.Itoa(len(all))] = impl.Nfa{States: 5, End: 1, Edges: []impl.NfaEdge{e}}
			all["last edge "+name+" "+strconv.Itoa(len(all))] = impl.Nfa{States: 5, End: 1, Edges: []impl.NfaEdge{free(0, 1), anyEdge(0, 1), e}}
		}
	}
	for i, e := range []impl.NfaEdge{
		{To: 1, Free: true, Any: true}, {To: 1, Free: true, Any: true, N: 3},
		{To: 1, Free: true, N: 3}, {To: 1, Free: true, N: -1}, {To: 1, Free: true, N: 70000},
		{To: 1, Any: true, N: 3}, {To: 1, Any: true, N: -1}, {To: 1, Any: true, N: 70000},
	} {
		all["label "+strconv.Itoa(i)] = impl.Nfa{States: 2, End: 1, Edges: []impl.NfaEdge{e}}
		all["label at the end "+strconv.Itoa(i)] = impl.Nfa{States: 2, End: 1, Edges: []impl.NfaEdge{free(0, 1), e}}
	}
	for _, n := range badAsns() {
		all["number "+strconv.Itoa(n)] = impl.Nfa{States: 2, End: 1, Edges: []impl.NfaEdge{free(0, 1), edgeBy(0, 1, n)}}
	}
	return all
}

func TestMachinesAreGoodByTheirWords(t *testing.T) {
	for _, n := range goodNfas() {
		if !impl.GoodNfa(n) {
			t.Errorf("%v is not good", n)
		}
	}
	for name, n := range badNfas() {
		if impl.GoodNfa(n) {
			t.Errorf("%s: %v is good", name, n)
		}
		for _, path := range [][]int{nil, {3}, {3, 4, 7}} {
			if is, most, ok := impl.RunNfa(n, path); is || most != 0 || ok {
				t.Errorf("%s: RunNfa(%v, %v) = %v, %v, %v", name, n, path, is, most, ok)
			}
		}
	}
}

func TestRunNfaGoesByItsWords(t *testing.T) {
	r := rand.New(rand.NewSource(72))
	for _, n := range goodNfas() {
		paths := [][]int{nil, {3}, {3, 3, 4}}
		for range 6 {
			paths = append(paths, mixedPath(r.Intn(longestPath+1), r))
		}
		for _, path := range paths {
			want, wantMost := runByWords(n, path)
			if is, most, ok := impl.RunNfa(n, path); is != want || most != wantMost || !ok {
				t.Errorf("RunNfa(%v, %v) = %v, %v, %v, not %v, %v", n, path, is, most, ok, want, wantMost)
			}
		}
	}
}

// chainNfa has Free edges from each state to the next one, told backwards, so that a single round of them is not enough.
func chainNfa(states int) impl.Nfa {
	n := impl.Nfa{States: states, End: states - 1}
	for from := states - 2; from >= 0; from-- {
		n.Edges = append(n.Edges, free(from, from+1))
	}
	return n
}

func TestMachinesThatAreKnown(t *testing.T) {
	ring := []impl.NfaEdge{free(0, 1), free(1, 2), free(2, 0)}
	fan := []impl.NfaEdge{free(0, 1), free(0, 2), free(0, 3), edgeBy(1, 4, 3), edgeBy(4, 5, 4), anyEdge(4, 6)}
	for _, k := range []struct {
		name string
		n    impl.Nfa
		path []int
		is   bool
		most int
	}{
		{"one state", impl.Nfa{States: 1}, nil, true, 1},
		{"one state, a number", impl.Nfa{States: 1}, []int{3}, false, 1},
		{"one state, a Free edge to itself", impl.Nfa{States: 1, Edges: []impl.NfaEdge{free(0, 0)}}, nil, true, 1},
		{"a Free edge takes nothing", impl.Nfa{States: 1, Edges: []impl.NfaEdge{free(0, 0)}}, []int{3}, false, 1},
		{"an Any edge to itself", impl.Nfa{States: 1, Edges: []impl.NfaEdge{anyEdge(0, 0)}}, []int{3, 4, 5}, true, 1},
		{"a number's edge to itself", impl.Nfa{States: 1, Edges: []impl.NfaEdge{edgeBy(0, 0, 3)}}, []int{3, 3, 4}, false, 1},
		{"an edge needs its number", impl.Nfa{States: 2, End: 1, Edges: []impl.NfaEdge{edgeBy(0, 1, 3)}}, nil, false, 1},
		{"edges go one way", impl.Nfa{States: 2, Start: 1, Edges: []impl.NfaEdge{free(0, 1)}}, nil, false, 1},
		{"a Free edge, both its states are held", impl.Nfa{States: 2, End: 1, Edges: []impl.NfaEdge{free(0, 1)}}, nil, true, 2},
		{"a ring", impl.Nfa{States: 3, End: 2, Edges: ring}, nil, true, 3},
		{"a ring takes nothing", impl.Nfa{States: 3, End: 2, Edges: ring}, []int{3}, false, 3},
		{"a ring and a way out", impl.Nfa{States: 4, End: 3, Edges: append(ring[:3:3], edgeBy(1, 3, 7))}, []int{7}, true, 3},
		{"a ring that is come to", impl.Nfa{States: 4, Start: 3, End: 1, Edges: append(ring[:3:3], edgeBy(3, 2, 7))}, []int{7}, true, 3},
		{"two rings side by side", impl.Nfa{States: 6, End: 5, Edges: append(ring[:3:3], free(3, 4), free(4, 5), free(5, 3), free(1, 3))}, nil, true, 6},
		{"most ahead of the first number", impl.Nfa{States: 7, End: 5, Edges: fan}, []int{3, 4}, true, 4},
		{"most ahead, none behind", impl.Nfa{States: 7, End: 5, Edges: fan}, []int{5}, false, 4},
		{"no state any more, and more numbers", impl.Nfa{States: 7, End: 5, Edges: fan}, []int{3, 4, 4, 3, 4, 3, 3, 3, 3, 3}, false, 4},
		{"most at the end", impl.Nfa{States: 7, Start: 4, End: 6, Edges: fan}, []int{4}, true, 2},
		{"most in the middle", impl.Nfa{States: 5, End: 4, Edges: []impl.NfaEdge{anyEdge(0, 1), free(1, 2), free(2, 3), anyEdge(3, 4)}}, []int{3, 3}, true, 3},
		{"a chain of all states", chainNfa(mostStates), nil, true, mostStates},
		{"a chain of all states takes nothing", chainNfa(mostStates), []int{3}, false, mostStates},
		{"End is held on the way alone", impl.Nfa{States: 2, Edges: []impl.NfaEdge{edgeBy(0, 1, 3)}}, []int{3}, false, 1},
		{"Start and End are one", impl.Nfa{States: 2, Edges: []impl.NfaEdge{edgeBy(0, 1, 3), edgeBy(1, 0, 4)}}, []int{3, 4}, true, 1},
	} {
		if is, most, ok := impl.RunNfa(k.n, k.path); is != k.is || most != k.most || !ok {
			t.Errorf("%s: %v, %v, %v, not %v, %v", k.name, is, most, ok, k.is, k.most)
		}
	}
}

func TestHeldStatesOfPatterns(t *testing.T) {
	for _, k := range []struct {
		text string
		path []int
		is   bool
		most int
	}{
		{"none", nil, false, 1}, {"none", []int{3}, false, 1},
		{"empty", nil, true, 2}, {"3", []int{3}, true, 1}, {"any", []int{9}, true, 1},
		{"or 3 4", nil, false, 3}, {"or 3 4", []int{3}, true, 3}, {"then 3 4", []int{3, 4}, true, 2},
		{"star 3", nil, true, 3}, {"star 3", []int{3}, true, 3}, {"star 3", []int{3, 3, 4}, false, 3},
		{"star empty", nil, true, 4}, {"star empty", []int{3}, false, 4},
		{"star star star 3", nil, true, 7}, {"star star star 3", []int{4}, false, 7}, {"star star 3", []int{3}, true, 5},
	} {
		n, _ := impl.BuildNfa(cells(k.text))
		want, wantMost := runByWords(n, k.path)
		if want != k.is || wantMost != k.most {
			t.Errorf("%s by %v: by its words %v, %v", k.text, k.path, want, wantMost)
		}
		if is, most, ok := impl.RunNfa(n, k.path); is != k.is || most != k.most || !ok {
			t.Errorf("%s by %v: %v, %v, %v, not %v, %v", k.text, k.path, is, most, ok, k.is, k.most)
		}
	}
}

func badPatterns() map[string][]impl.ReCell {
	all := map[string][]impl.ReCell{
		"no cell":              {},
		"nil":                  nil,
		"31 cells, stars":      repeated(starCell, mostCells, "3"),
		"31 cells, thens":      repeated(thenCell, 15, strings.Repeat("3 ", 16)),
		"31 cells, ors":        append(slices.Repeat([]impl.ReCell{orCell, anyCell}, 15), anyCell),
		"far too many, stars":  repeated(starCell, 1<<20, "3"),
		"far too many, thens":  slices.Repeat([]impl.ReCell{thenCell}, 1<<20),
		"far too many numbers": slices.Repeat([]impl.ReCell{oneCell(3)}, 1<<20),
	}
	for _, text := range []string{"then", "or", "star", "then 3", "or 3", "star star", "then star 3", "then then 3 4", "or 3 or 4", "star then 3", "then 3 star", "then 3 or 4"} {
		all["too few: "+text] = cells(text)
	}
	for _, text := range []string{"none none", "empty empty", "3 4", "any any", "then 3 4 5", "or 3 4 any", "star 3 4", "star 3 star", "3 then", "empty star 3", "none or 3 4"} {
		all["too many: "+text] = cells(text)
	}
	all["30 cells, one too few"] = append(slices.Repeat([]impl.ReCell{thenCell, anyCell}, 14), thenCell, anyCell)
	all["30 cells, one too many"] = append(slices.Repeat([]impl.ReCell{starCell}, 28), anyCell, anyCell)
	for name, c := range badCells() {
		all[name+", alone"] = []impl.ReCell{c}
		all[name+", within a star"] = []impl.ReCell{starCell, c}
		all[name+", first"] = []impl.ReCell{thenCell, c, anyCell}
		all[name+", last"] = []impl.ReCell{orCell, anyCell, c}
		all[name+", ahead of one"] = []impl.ReCell{c, anyCell}
		all[name+", ahead of two"] = []impl.ReCell{c, anyCell, oneCell(3)}
	}
	return all
}

func badCells() map[string]impl.ReCell {
	all := map[string]impl.ReCell{}
	for _, kind := range []int{0, -1, 8, 9, 255, 256 + impl.ReAny, 1<<32 + impl.ReStar, math.MinInt, math.MaxInt} {
		all["kind "+strconv.Itoa(kind)] = impl.ReCell{Kind: kind}
		all["kind with a number "+strconv.Itoa(kind)] = impl.ReCell{Kind: kind, N: 3}
	}
	for _, kind := range []int{impl.ReNone, impl.ReEmpty, impl.ReAny, impl.ReThen, impl.ReOr, impl.ReStar} {
		for _, n := range []int{1, -1, 3, lastAsn, lastAsn + 1, 1 << 32, math.MinInt, math.MaxInt} {
			all["a number of kind "+strconv.Itoa(kind)+": "+strconv.Itoa(n)] = impl.ReCell{Kind: kind, N: n}
		}
	}
	for _, n := range badAsns() {
		all["number "+strconv.Itoa(n)] = oneCell(n)
	}
	return all
}

func TestPatternsAreGoodByTheirWords(t *testing.T) {
	for _, r := range slices.Concat(slices.Concat(smallPatterns(5)...), goodPatterns()) {
		if !impl.GoodRegex(r) {
			t.Errorf("%s is not good", textOf(r))
		}
		if impl.GoodRegex(r[:len(r)-1]) || impl.GoodRegex(append(slices.Clone(r), anyCell)) {
			t.Errorf("%s with a cell less or more is good", textOf(r))
		}
	}
	for name, r := range badPatterns() {
		if impl.GoodRegex(r) {
			t.Errorf("%s is good", name)
		}
	}
}

func TestPatternsThatAreNotGoodAreRefused(t *testing.T) {
	for name, r := range badPatterns() {
		for _, path := range [][]int{nil, {3}, {3, 3, 4}, slices.Repeat([]int{3}, longestPath)} {
			if is, ok := impl.MatchPath(r, path); is || ok {
				t.Errorf("%s: MatchPath: %v, %v", name, is, ok)
			}
		}
		for _, n := range []int{0, 1, 3, lastAsn} {
			if d, ok := impl.DeriveBy(r, n); len(d) != 0 || ok {
				t.Errorf("%s: DeriveBy: %v, %v", name, d, ok)
			}
		}
		if is, ok := impl.TakesEmpty(r); is || ok {
			t.Errorf("%s: TakesEmpty: %v, %v", name, is, ok)
		}
		if n, ok := impl.BuildNfa(r); !isZeroNfa(n) || ok {
			t.Errorf("%s: BuildNfa: %v, %v", name, n, ok)
		}
		if s, ok := impl.RegexText(r); s != "" || ok {
			t.Errorf("%s: RegexText: %q, %v", name, s, ok)
		}
		if d, ok := impl.TidyRegex(r); len(d) != 0 || ok {
			t.Errorf("%s: TidyRegex: %v, %v", name, d, ok)
		}
	}
}

func badPaths() [][]int {
	ten := slices.Repeat([]int{3}, longestPath)
	l := [][]int{append(ten[:longestPath:longestPath], 3), slices.Repeat([]int{3}, 12), slices.Repeat([]int{4}, 5000)}
	for _, n := range badAsns() {
		l = append(l, []int{n}, []int{3, n}, []int{n, 3}, []int{3, n, 3}, append(ten[:9:9], n))
	}
	return l
}

func TestPathsThatAreNotGoodAreRefused(t *testing.T) {
	for _, path := range badPaths() {
		for _, r := range append(kindPatterns(), cells("star any")) {
			if is, ok := impl.MatchPath(r, path); is || ok {
				t.Errorf("MatchPath(%s, %v) = %v, %v", textOf(r), path, is, ok)
			}
			if is, most, ok := impl.RunNfa(nfaByWords(r), path); is || most != 0 || ok {
				t.Errorf("RunNfa(%s, %v) = %v, %v, %v", textOf(r), path, is, most, ok)
			}
		}
	}
}

var behindCell = impl.ReCell{Kind: impl.ReAny, N: -7}
var writtenCell = impl.ReCell{Kind: -9, N: -9}
var behindEdge = impl.NfaEdge{From: -7, To: -7, Free: true, Any: true, N: -7}
var writtenEdge = impl.NfaEdge{From: -9, To: -9, Any: true, N: -9}

// lookAtMemory hands a list in with memory behind it, and writes into all that is answered.
func lookAtMemory(t *testing.T, r []impl.ReCell, behind impl.ReCell, path []int) {
	t.Helper()
	given, givenPath := withBehind(r, behind), withBehind(path, behind.N)
	kept, keptPath := whole(given), whole(givenPath)
	cellsToo := func(got []impl.ReCell, want []impl.ReCell, ok, wantOk bool) {
		t.Helper()
		if !slices.Equal(got, want) || ok != wantOk {
			t.Errorf("%s: %s, %v, not %s, %v", textOf(r), textOf(got), ok, textOf(want), wantOk)
		}
		overwrite(got, writtenCell)
	}
	if impl.GoodRegex(given) != impl.GoodRegex(r) {
		t.Errorf("%s: what lies behind is read", textOf(r))
	}
	is, ok := impl.MatchPath(given, givenPath)
	if want, wantOk := impl.MatchPath(r, path); is != want || ok != wantOk {
		t.Errorf("%s, %v: %v, %v, not %v, %v", textOf(r), path, is, ok, want, wantOk)
	}
	impl.TakesEmpty(given)
	impl.RegexText(given)
	for _, n := range []int{0, 3, 4} {
		got, ok := impl.DeriveBy(given, n)
		want, wantOk := impl.DeriveBy(r, n)
		cellsToo(got, want, ok, wantOk)
	}
	got, ok := impl.TidyRegex(given)
	want, wantOk := impl.TidyRegex(r)
	cellsToo(got, want, ok, wantOk)
	n, _ := impl.BuildNfa(given)
	if other, _ := impl.BuildNfa(r); !sameNfa(n, other) {
		t.Errorf("%s: %v, not %v", textOf(r), n, other)
	}
	overwrite(n.Edges, writtenEdge)
	if !slices.Equal(whole(given), kept) || !slices.Equal(whole(givenPath), keptPath) {
		t.Errorf("%v, %v became %v, %v", kept, keptPath, whole(given), whole(givenPath))
	}
}

func TestPatternsAreNotWrittenIntoNorShared(t *testing.T) {
	for _, r := range goodPatterns() {
		for _, behind := range []impl.ReCell{behindCell, anyCell, oneCell(3)} {
			lookAtMemory(t, r, behind, []int{3, 4})
		}
	}
	for _, r := range badPatterns() {
		if len(r) < 100 {
			lookAtMemory(t, r, oneCell(3), slices.Repeat([]int{3}, longestPath))
		}
	}
	for _, path := range badPaths() {
		lookAtMemory(t, cells("star any"), behindCell, path)
	}
}

func TestWhatLiesBehindAPatternIsNotRead(t *testing.T) {
	for _, text := range []string{"then 3 4", "or 3 4", "star 3", "then star 3 or 4 any"} {
		r := cells(text)
		for end := range r {
			if impl.GoodRegex(r[:end]) {
				t.Errorf("%s: %d cells are good", text, end)
			}
		}
	}
	for text, cut := range map[string]int{"3 4": 1, "star 3 any": 2, "then 3 4 5": 3} {
		if r := cells(text)[:cut]; !impl.GoodRegex(r) {
			t.Errorf("%s: %d cells are not good", text, cut)
		}
	}
	long := slices.Repeat([]int{3}, 20)
	if is, ok := impl.MatchPath(cells("star 3"), long[:longestPath]); !is || !ok {
		t.Error("numbers behind the length were counted", is, ok)
	}
	n := impl.Nfa{States: 2, End: 1, Edges: []impl.NfaEdge{anyEdge(0, 1), free(0, 1)}[:1]}
	if is, most, ok := impl.RunNfa(n, nil); is || most != 1 || !ok {
		t.Error("an edge behind the length was taken", is, most, ok)
	}
}

func TestMachinesAreNotWrittenInto(t *testing.T) {
	all := goodNfas()
	for _, n := range badNfas() {
		all = append(all, n)
	}
	for _, n := range all {
		given := n
		given.Edges = withBehind(n.Edges, behindEdge)
		kept := whole(given.Edges)
		if impl.GoodNfa(given) != impl.GoodNfa(n) {
			t.Errorf("%v: what lies behind is read", n)
		}
		for _, path := range [][]int{nil, {3, 4}, {0}} {
			givenPath := withBehind(path, 3)
			keptPath := whole(givenPath)
			is, most, ok := impl.RunNfa(given, givenPath)
			if want, wantMost, wantOk := impl.RunNfa(n, path); is != want || most != wantMost || ok != wantOk {
				t.Errorf("RunNfa(%v, %v) = %v, %v, %v", n, path, is, most, ok)
			}
			if !slices.Equal(whole(givenPath), keptPath) {
				t.Errorf("%v became %v", keptPath, whole(givenPath))
			}
		}
		if !slices.Equal(whole(given.Edges), kept) {
			t.Errorf("%v became %v", kept, whole(given.Edges))
		}
	}
}

func TestTwoAnswersOfPatternsShareNoMemory(t *testing.T) {
	for _, r := range goodPatterns() {
		a, _ := impl.TidyRegex(r)
		b, _ := impl.TidyRegex(r)
		keptTidy := slices.Clone(b)
		overwrite(a, writtenCell)
		c, _ := impl.DeriveBy(r, 3)
		d, _ := impl.DeriveBy(r, 3)
		keptDerived := slices.Clone(d)
		overwrite(c, writtenCell)
		m, _ := impl.BuildNfa(r)
		n, _ := impl.BuildNfa(r)
		keptEdges := slices.Clone(n.Edges)
		overwrite(m.Edges, writtenEdge)
		if !slices.Equal(b, keptTidy) || !slices.Equal(d, keptDerived) || !slices.Equal(n.Edges, keptEdges) {
			t.Errorf("%s: an answer was written into by another one", textOf(r))
		}
	}
}

func TestPartsStandBehindAnInterfaceToldApartByATypeSwitch(t *testing.T) {
	parsed, err := parser.ParseFile(token.NewFileSet(), "../impl/l6_regex.go", nil, parser.SkipObjectResolution)
	if err != nil {
		t.Fatal(err)
	}
	interfaces, switches := 0, 0
	ast.Inspect(parsed, func(n ast.Node) bool {
		switch x := n.(type) {
		case *ast.InterfaceType:
			interfaces += len(x.Methods.List)
		case *ast.TypeSwitchStmt:
			switches++
		}
		return true
	})
	if interfaces == 0 || switches == 0 {
		t.Error(interfaces, switches)
	}
}
