package tests

import (
	"fmt"
	"go/ast"
	"go/parser"
	"go/token"
	"math"
	"math/rand"
	"regexp"
	"slices"
	"strings"
	"testing"

	"loop.example/g00344/impl"
)

const mostRels = 15

func TestKindsOfRelationsAreAsSaid(t *testing.T) {
	if impl.RelCustomer != 1 || impl.RelPeer != 2 || impl.RelProvider != 3 {
		t.Error(impl.RelCustomer, impl.RelPeer, impl.RelProvider)
	}
}

// relsOf has a word a relation, as it is gone from its A to its B: 0d1 down to a customer, 0o1 over to a peer, 0u1 up to a provider.
func relsOf(text string) []impl.Rel {
	var l []impl.Rel
	for _, word := range strings.Fields(text) {
		l = append(l, impl.Rel{A: int(word[0] - '0'), B: int(word[2] - '0'), Kind: 1 + strings.IndexByte("dou", word[1])})
	}
	return l
}

// The models below go by steps: d, o and u as above, and - where there is no relation.

func stepByWords(l []impl.Rel, a, b int) byte {
	for _, r := range l {
		if r.A == a && r.B == b {
			return "dou"[r.Kind-1]
		}
		if r.A == b && r.B == a {
			return "uod"[r.Kind-1]
		}
	}
	return '-'
}

func stepsByWords(l []impl.Rel, path []int) string {
	steps := make([]byte, len(path)-1)
	for i := range steps {
		steps[i] = stepByWords(l, path[i], path[i+1])
	}
	return string(steps)
}

func goodRelsByWords(nodes int, l []impl.Rel) bool {
	if nodes < 1 || nodes > mostSppNodes || len(l) > mostRels {
		return false
	}
	times := map[[2]int]int{}
	for _, r := range l {
		times[[2]int{r.A, r.B}]++
		if r.A < 0 || r.B > nodes || r.A >= r.B || r.Kind < 1 || r.Kind > 3 || times[[2]int{r.A, r.B}] > 1 {
			return false
		}
	}
	return true
}

func noRingByWords(l []impl.Rel) bool {
	var below [mostSpeakers][mostSpeakers]bool
	for a := range mostSpeakers {
		for b := range mostSpeakers {
			below[a][b] = stepByWords(l, a, b) == 'd'
		}
	}
	for by := range mostSpeakers {
		for a := range mostSpeakers {
			for b := range mostSpeakers {
				below[a][b] = below[a][b] || below[a][by] && below[by][b]
			}
		}
	}
	for a := range mostSpeakers {
		if below[a][a] {
			return false
		}
	}
	return true
}

var noValley = regexp.MustCompile("^u*o?d*$")

// valleyFreeByWords is asked where the relations are good.
func valleyFreeByWords(l []impl.Rel, path []int) (bool, bool) {
	if len(path) < 2 || len(path) > mostSpeakers {
		return false, false
	}
	times := map[int]int{}
	for _, node := range path {
		times[node]++
	}
	steps := stepsByWords(l, path)
	if len(times) < len(path) || strings.Contains(steps, "-") {
		return false, false
	}
	return noValley.MatchString(steps), true
}

func mayTellByWords(l []impl.Rel, a, b, next int) (bool, bool) {
	if a == b || a == next || b == next {
		return false, false
	}
	steps := string([]byte{stepByWords(l, a, b), stepByWords(l, a, next)})
	if strings.Contains(steps, "-") {
		return false, false
	}
	return strings.Contains(steps, "d"), true
}

// sppByWords looks at all rows there could be, and sorts texts.
func sppByWords(nodes int, l []impl.Rel) ([][]string, bool) {
	texts := make([][]string, nodes)
	for i, paths := range waysOf(nodes) {
		for _, path := range paths {
			steps := stepsByWords(l, path)
			if noValley.MatchString(steps) {
				texts[i] = append(texts[i], fmt.Sprint(strings.IndexByte("dou", steps[0]), len(path))+pathText(path))
			}
		}
		slices.Sort(texts[i])
		for k, text := range texts[i] {
			texts[i][k] = text[len("0 2"):]
		}
		if len(texts[i]) > mostRanked {
			return nil, false
		}
	}
	return texts, true
}

func lookAtKindTo(t *testing.T, nodes int, l []impl.Rel, a, b, want int, wantOk bool) {
	t.Helper()
	if got, ok := impl.KindTo(nodes, l, a, b); got != want || ok != wantOk {
		t.Errorf("KindTo(%d, %v, %d, %d) = %v, %v, not %v, %v", nodes, l, a, b, got, ok, want, wantOk)
	}
}

func lookAtNoRing(t *testing.T, nodes int, l []impl.Rel, want bool) {
	t.Helper()
	if got, ok := impl.NoRing(nodes, l); got != want || !ok {
		t.Errorf("NoRing(%d, %v) = %v, %v, not %v", nodes, l, got, ok, want)
	}
}

func lookAtValleyFree(t *testing.T, nodes int, l []impl.Rel, path []int, want, wantOk bool) {
	t.Helper()
	if got, ok := impl.IsValleyFree(nodes, l, path); got != want || ok != wantOk {
		t.Errorf("IsValleyFree(%d, %v, %v) = %v, %v, not %v, %v", nodes, l, path, got, ok, want, wantOk)
	}
}

func lookAtMayTell(t *testing.T, nodes int, l []impl.Rel, a, b, next int, want, wantOk bool) {
	t.Helper()
	if got, ok := impl.MayTell(nodes, l, a, b, next); got != want || ok != wantOk {
		t.Errorf("MayTell(%d, %v, %d, %d, %d) = %v, %v, not %v, %v", nodes, l, a, b, next, got, ok, want, wantOk)
	}
}

func lookAtSppOf(t *testing.T, nodes int, l []impl.Rel, want impl.Spp, wantOk bool) {
	t.Helper()
	if got, ok := impl.SppOf(nodes, l); !sameSpp(got, want) || ok != wantOk {
		t.Errorf("SppOf(%d, %v) = %v, %v, not %v, %v", nodes, l, got, ok, want, wantOk)
	}
}

func lookAtRoute(t *testing.T, nodes int, l []impl.Rel, node int, want string) {
	t.Helper()
	if got, ok := impl.RouteOf(nodes, l, node); !slices.Equal(got, digits(want)) || ok != (want != "") {
		t.Errorf("RouteOf(%d, %v, %d) = %v, %v, not %q", nodes, l, node, got, ok, want)
	}
}

// lookAtTies asks for all two and all three nodes, also for those that are just out of bounds.
func lookAtTies(t *testing.T, nodes int, l []impl.Rel) {
	t.Helper()
	for a := -1; a <= nodes+1; a++ {
		for b := -1; b <= nodes+1; b++ {
			kind := 1 + strings.IndexByte("dou", stepByWords(l, a, b))
			lookAtKindTo(t, nodes, l, a, b, kind, kind != 0)
			for next := -1; next <= nodes+1; next++ {
				want, wantOk := mayTellByWords(l, a, b, next)
				lookAtMayTell(t, nodes, l, a, b, next, want, wantOk)
			}
		}
	}
}

// relsKind is what is told of relations as a whole.
type relsKind struct {
	noRing bool
	good   bool
}

// lookAtRels looks at what is told of relations as a whole, and at promise 11.
func lookAtRels(t *testing.T, nodes int, l []impl.Rel) relsKind {
	t.Helper()
	if !impl.GoodRels(nodes, l) {
		t.Fatalf("%d, %v are not good", nodes, l)
	}
	noRing := noRingByWords(l)
	lookAtNoRing(t, nodes, l, noRing)
	texts, good := sppByWords(nodes, l)
	if !good {
		lookAtSppOf(t, nodes, l, impl.Spp{}, false)
		for node := -1; node <= nodes+1; node++ {
			lookAtRoute(t, nodes, l, node, "")
		}
		return relsKind{noRing, false}
	}
	s := impl.Spp{}
	for _, paths := range texts {
		s.Ranked = append(s.Ranked, sppOf(strings.Join(paths, " ")).Ranked...)
	}
	lookAtSppOf(t, nodes, l, s, true)
	chosen, _, settled := settleByWords(texts, mostRounds)
	if noRing && (!settled || hasWheelByWords(texts)) {
		t.Fatalf("%v has no ring, but settles: %v", l, settled)
	}
	if noRing {
		lookAtNoWheel(t, nodes, l)
	}
	for _, node := range []int{-1, 0, nodes + 1} {
		lookAtRoute(t, nodes, l, node, "")
	}
	for i, held := range heldBy(texts, chosen) {
		lookAtRoute(t, nodes, l, i+1, held)
	}
	return relsKind{noRing, true}
}

// lookAtNoWheel asks the program alone for what promise 11 tells.
func lookAtNoWheel(t *testing.T, nodes int, l []impl.Rel) {
	t.Helper()
	s, good := impl.SppOf(nodes, l)
	if !good || !impl.GoodSpp(s) {
		t.Fatalf("SppOf(%d, %v) is not good: %v, %v", nodes, l, s, good)
	}
	if wheel, ok := impl.HasWheel(s); wheel || !ok {
		t.Errorf("%v: a wheel turns in %v: %v, %v", l, s, wheel, ok)
	}
	chosen, _, ok := impl.SettleSpp(s)
	if !ok || len(chosen) != nodes {
		t.Fatalf("%v: %v does not settle: %v, %v", l, s, chosen, ok)
	}
	for i, paths := range s.Ranked {
		route, has := impl.RouteOf(nodes, l, i+1)
		if has != (chosen[i] >= 0) || has && !slices.Equal(route, paths[chosen[i]]) {
			t.Errorf("%v: RouteOf %d is %v, %v, but %v has chosen %v", l, i+1, route, has, s, chosen)
		}
	}
}

// eachRels hands over all relations of so many nodes, or each so manieth of them.
func eachRels(nodes, step int, look func([]impl.Rel)) {
	pairs := nodes * (nodes + 1) / 2
	for code := 0; code < 1<<(2*pairs); code += step {
		rest := code
		var l []impl.Rel
		for b := 1; b <= nodes; b++ {
			for a := range b {
				if rest%4 > 0 {
					l = append(l, impl.Rel{A: a, B: b, Kind: rest % 4})
				}
				rest /= 4
			}
		}
		look(l)
	}
}

// mixedRels has relations of so many of a hundred twos, in any order. Where it is ringless who is a provider stands ahead of its customers in some row.
func mixedRels(nodes, of100 int, ringless bool, r *rand.Rand) []impl.Rel {
	var l []impl.Rel
	place := r.Perm(nodes + 1)
	for b := 1; b <= nodes; b++ {
		for a := range b {
			if r.Intn(100) >= of100 {
				continue
			}
			kind := 1 + r.Intn(3)
			if ringless && kind != 2 {
				kind = 1
				if place[b] < place[a] {
					kind = 3
				}
			}
			l = append(l, impl.Rel{A: a, B: b, Kind: kind})
		}
	}
	r.Shuffle(len(l), func(i, k int) { l[i], l[k] = l[k], l[i] })
	return l
}

// fullRels has as many nodes, and as many relations, as there may be, all of one kind.
func fullRels(kind int) []impl.Rel {
	var l []impl.Rel
	for a := range mostSpeakers {
		for b := a + 1; b < mostSpeakers; b++ {
			l = append(l, impl.Rel{A: a, B: b, Kind: kind})
		}
	}
	return l
}

type relsCase struct {
	nodes int
	l     []impl.Rel
}

func goodRels() map[string]relsCase {
	all := map[string]relsCase{
		"no relation, one node":                {1, nil},
		"no relation, not nil":                 {1, []impl.Rel{}},
		"no relation, as many nodes as may be": {5, nil},
		"a customer":                           {1, relsOf("0d1")},
		"a peer":                               {1, relsOf("0o1")},
		"a provider":                           {1, relsOf("0u1")},
		"the greatest node":                    {5, relsOf("4d5")},
		"0 and the greatest node":              {5, relsOf("0u5")},
		"in falling order":                     {3, relsOf("2d3 1d3 1d2 0d3 0d2 0d1")},
		"all are customers":                    {5, fullRels(1)},
		"all are peers":                        {5, fullRels(2)},
		"all are providers":                    {5, fullRels(3)},
		"a chain up to 0":                      {5, relsOf("0d1 1d2 2d3 3d4 4d5")},
		"a chain down to 0":                    {5, relsOf("0u1 1u2 2u3 3u4 4u5")},
		"a ring":                               {3, relsOf("0u1 0u2 0u3 1d2 2d3 1u3")},
	}
	r := rand.New(rand.NewSource(11))
	for i := range 40 {
		nodes := 1 + i%mostSppNodes
		all[fmt.Sprintf("mixed %d", i)] = relsCase{nodes, mixedRels(nodes, 20+r.Intn(80), i%3 == 0, r)}
	}
	return all
}

// farRels are nodes and kinds that are none, whatever is cut off them.
func farRels() []int {
	return []int{-1 << 32, -256, -2, -1, 1<<32 + 1, 1<<32 + 2, 256, 257, 258, math.MinInt, math.MinInt + 1, math.MaxInt}
}

func badRels() map[string]relsCase {
	all := map[string]relsCase{
		"no nodes":                             {0, nil},
		"no nodes, a relation":                 {0, relsOf("0d1")},
		"nodes below 0":                        {-1, nil},
		"one node too many":                    {6, nil},
		"one node too many, a relation":        {6, relsOf("0d1")},
		"one relation too many":                {5, append(fullRels(1), impl.Rel{A: 0, B: 1, Kind: 1})},
		"one relation too many, of 6":          {6, append(fullRels(1), impl.Rel{A: 0, B: 6, Kind: 1})},
		"one relation too many, out of bounds": {5, append(fullRels(2), impl.Rel{A: 5, B: 6, Kind: 2})},
		"far too many relations":               {5, slices.Repeat(fullRels(3), 10000)},
		"A at B":                               {2, relsOf("0d0")},
		"A at B, not at 0":                     {2, relsOf("0d1 2d2")},
		"A above B":                            {2, relsOf("1d0")},
		"A above B, not at 0":                  {2, relsOf("2o1")},
		"A above B, and the other way round":   {2, relsOf("1o2 2o1")},
		"A below 0":                            {2, []impl.Rel{{A: -1, B: 1, Kind: 1}}},
		"both below 0":                         {2, []impl.Rel{{A: -2, B: -1, Kind: 1}}},
		"B above nodes":                        {2, relsOf("0d3")},
		"B above nodes, A at nodes":            {2, relsOf("0d1 2d3")},
		"both above nodes":                     {2, relsOf("3d4")},
		"B at 6":                               {5, relsOf("0d6")},
		"a kind of 0":                          {2, []impl.Rel{{A: 0, B: 1, Kind: 0}}},
		"a kind above provider":                {2, []impl.Rel{{A: 0, B: 1, Kind: 4}}},
		"a kind of 0, twice":                   {2, []impl.Rel{{A: 0, B: 1, Kind: 0}, {A: 0, B: 1, Kind: 0}}},
		"a kind of 0, behind a good one":       {2, []impl.Rel{{A: 0, B: 1, Kind: 1}, {A: 1, B: 2}}},
		"the same two, alike":                  {2, relsOf("0d1 0d1")},
		"the same two, as peers":               {2, relsOf("0o1 0o1")},
		"the same two, of unlike kinds":        {2, relsOf("0d1 0u1")},
		"the same two, others between":         {3, relsOf("0d1 0d2 2d3 0o1")},
		"the same two, at the end":             {5, relsOf("0d1 0d2 4d5 4d5")},
		"the zero relation":                    {1, make([]impl.Rel, 1)},
	}
	for _, far := range farRels() {
		for name, r := range map[string]impl.Rel{
			"as A":    {A: far, B: 2, Kind: 1},
			"as B":    {A: 0, B: far, Kind: 1},
			"as both": {A: far, B: far, Kind: 2},
			"as Kind": {A: 0, B: 2, Kind: far},
		} {
			all[fmt.Sprintf("%d %s", far, name)] = relsCase{5, []impl.Rel{r}}
			all[fmt.Sprintf("%d %s, in between", far, name)] = relsCase{5, []impl.Rel{{A: 0, B: 1, Kind: 1}, r, {A: 1, B: 2, Kind: 3}}}
		}
		all[fmt.Sprintf("%d nodes", far)] = relsCase{far, nil}
		all[fmt.Sprintf("%d nodes, a relation", far)] = relsCase{far, relsOf("0d1")}
	}
	return all
}

func TestRelationsAreGoodByTheirWords(t *testing.T) {
	for name, c := range goodRels() {
		if !impl.GoodRels(c.nodes, c.l) || !goodRelsByWords(c.nodes, c.l) {
			t.Errorf("%s: %v is not good", name, c)
		}
	}
	for name, c := range badRels() {
		if impl.GoodRels(c.nodes, c.l) || goodRelsByWords(c.nodes, c.l) {
			t.Errorf("%s is good", name)
		}
	}
}

func TestGoodRelsOfAllNumbersAroundTheBounds(t *testing.T) {
	good := 0
	for nodes := -1; nodes <= 7; nodes++ {
		for a := -1; a <= 7; a++ {
			for b := -1; b <= 7; b++ {
				for kind := -1; kind <= 5; kind++ {
					l := []impl.Rel{{A: a, B: b, Kind: kind}}
					want := goodRelsByWords(nodes, l)
					if got := impl.GoodRels(nodes, l); got != want {
						t.Errorf("GoodRels(%d, %v) = %v", nodes, l, got)
					}
					if want {
						good++
					}
				}
			}
		}
	}
	if good != 3*(1+3+6+10+15) {
		t.Error(good)
	}
}

// TestRelationsThatAreNotQuiteGood changes one number of good relations, or tells one of them twice.
func TestRelationsThatAreNotQuiteGood(t *testing.T) {
	r := rand.New(rand.NewSource(111))
	counts := [2]int{}
	for i := range 20000 {
		nodes := 1 + r.Intn(mostSppNodes)
		l := mixedRels(nodes, 70, false, r)
		if len(l) == 0 {
			continue
		}
		at := r.Intn(len(l))
		switch i % 4 {
		case 0:
			l[at].A = r.Intn(8) - 1
		case 1:
			l[at].B = r.Intn(8) - 1
		case 2:
			l[at].Kind = r.Intn(6) - 1
		default:
			twice := l[at]
			twice.Kind = 1 + r.Intn(3)
			l = slices.Insert(l, r.Intn(len(l)+1), twice)
		}
		want := goodRelsByWords(nodes, l)
		if got := impl.GoodRels(nodes, l); got != want {
			t.Errorf("GoodRels(%d, %v) = %v", nodes, l, got)
		}
		if want {
			counts[1]++
		} else {
			counts[0]++
		}
	}
	if counts[0] < 5000 || counts[1] < 2000 {
		t.Error(counts)
	}
}

func TestKindsAreToldBothWaysRound(t *testing.T) {
	l := relsOf("0d1 1o2 0u3 2d4")
	for _, c := range []struct{ a, b, want int }{
		{0, 1, impl.RelCustomer}, {1, 0, impl.RelProvider},
		{1, 2, impl.RelPeer}, {2, 1, impl.RelPeer},
		{0, 3, impl.RelProvider}, {3, 0, impl.RelCustomer},
		{2, 4, impl.RelCustomer}, {4, 2, impl.RelProvider},
	} {
		lookAtKindTo(t, 5, l, c.a, c.b, c.want, true)
	}
	for _, c := range [][2]int{{0, 2}, {2, 0}, {1, 3}, {3, 1}, {5, 0}, {0, 5}, {4, 5}} {
		lookAtKindTo(t, 5, l, c[0], c[1], 0, false)
	}
	for node := -1; node <= 6; node++ {
		lookAtKindTo(t, 5, l, node, node, 0, false)
		lookAtKindTo(t, 5, fullRels(2), node, node, 0, false)
	}
	for _, far := range append(farNumbers(), farRels()...) {
		if 0 <= far && far <= 5 {
			continue
		}
		for node := range mostSpeakers {
			lookAtKindTo(t, 5, fullRels(1), node, far, 0, false)
			lookAtKindTo(t, 5, fullRels(1), far, node, 0, false)
			lookAtKindTo(t, 5, fullRels(1), far, far, 0, false)
		}
	}
}

func TestRingsOfCustomers(t *testing.T) {
	for name, c := range map[string]struct {
		nodes int
		text  string
		want  bool
	}{
		"no relation":                            {1, "", true},
		"no relation of many":                    {5, "", true},
		"one customer":                           {1, "0d1", true},
		"one provider":                           {1, "0u1", true},
		"a chain of customers":                   {5, "0d1 1d2 2d3 3d4 4d5", true},
		"a chain of providers":                   {5, "0u1 1u2 2u3 3u4 4u5", true},
		"three customers":                        {2, "0d1 1d2 0u2", false},
		"three customers, the other way round":   {2, "0u1 1u2 0d2", false},
		"three customers without 0":              {3, "1d2 2d3 1u3", false},
		"three of the greatest":                  {5, "3d4 4d5 3u5", false},
		"one has two ways to a customer":         {2, "0d1 1d2 0d2", true},
		"two are providers of one":               {2, "0d2 1d2", true},
		"four customers":                         {3, "0d1 1d2 2d3 0u3", false},
		"five customers":                         {4, "0d1 1d2 2d3 3d4 0u4", false},
		"six customers":                          {5, "0d1 1d2 2d3 3d4 4d5 0u5", false},
		"six customers, told from the end on":    {5, "0u5 4d5 3d4 2d3 1d2 0d1", false},
		"six customers, crossing":                {5, "0d3 1u3 1d4 2u4 2d5 0u5", false},
		"a peer breaks it":                       {2, "0d1 1d2 0o2", true},
		"another peer breaks it":                 {2, "0o1 1d2 0u2", true},
		"a peer breaks a greater one":            {5, "0d1 1d2 2o3 3d4 4d5 0u5", true},
		"a peer across does not break it":        {3, "0d1 1d2 2d3 0u3 0o2 1o3", false},
		"peers all round":                        {2, "0o1 1o2 0o2", true},
		"one relation breaks it":                 {3, "0d1 1d2 2u3 0u3", true},
		"customers and providers":                {3, "0d2 1u2 1d3 0u3", false},
		"providers and customers":                {3, "0u2 1d2 1u3 0d3", false},
		"a ring, and others ahead of it":         {5, "0d1 0d2 1d2 3d4 4d5 3u5", false},
		"a ring with a customer under it":        {3, "0d1 1d2 0u2 2d3", false},
		"a ring with a provider over it":         {3, "1d2 2d3 1u3 0d1", false},
		"a provider over a chain, no ring":       {3, "1d2 2d3 1d3 0d1 0d2 0d3", true},
		"two rings":                              {5, "0d1 1d2 0u2 3d4 4d5 3u5", false},
		"two rings that have one in common":      {4, "0d1 1d2 0u2 2d3 3d4 2u4", false},
		"everybody is a customer of those ahead": {5, "0d1 0d2 0d3 0d4 0d5 1d2 1d3 1d4 1d5 2d3 2d4 2d5 3d4 3d5 4d5", true},
		"so, but the last one is a provider":     {5, "0d1 0d2 0d3 0d4 0u5 1d2 1d3 1d4 1d5 2d3 2d4 2d5 3d4 3d5 4d5", false},
		"so, but for three next to each other":   {5, "0d1 0d2 0d3 0d4 0d5 1d2 1d3 1d4 1d5 2d3 2d4 2d5 3d4 3u5 4d5", false},
	} {
		t.Run(name, func(t *testing.T) {
			l := relsOf(c.text)
			lookAtNoRing(t, c.nodes, l, c.want)
			if noRingByWords(l) != c.want {
				t.Error(l)
			}
			for i := range l {
				l[i].Kind = 4 - l[i].Kind
			}
			lookAtNoRing(t, c.nodes, l, c.want)
		})
	}
}

func TestRowsWithoutValleys(t *testing.T) {
	hill := "0u1 1u2 2o3 3d4 4d5" // 0 up to 1 up to 2 over to 3 down to 4 down to 5
	for name, c := range map[string]struct {
		text   string
		path   string
		want   bool
		wantOk bool
	}{
		"no row":                          {hill, "", false, false},
		"a row of one":                    {hill, "0", false, false},
		"a row of one that is not 0":      {hill, "3", false, false},
		"two, up":                         {hill, "01", true, true},
		"two, over":                       {hill, "23", true, true},
		"two, down":                       {hill, "34", true, true},
		"two, the other way round, down":  {hill, "10", true, true},
		"two, the other way round, over":  {hill, "32", true, true},
		"two, the other way round, up":    {hill, "43", true, true},
		"two without a relation":          {hill, "02", false, false},
		"two alike":                       {hill, "11", false, false},
		"two alike, 0":                    {hill, "00", false, false},
		"up alone":                        {hill, "012", true, true},
		"down alone":                      {hill, "345", true, true},
		"up alone, all":                   {"0u1 1u2 2u3 3u4 4u5", "012345", true, true},
		"down alone, all":                 {"0u1 1u2 2u3 3u4 4u5", "543210", true, true},
		"up and over":                     {hill, "0123", true, true},
		"over and down":                   {hill, "2345", true, true},
		"up, over one peer and down":      {hill, "012345", true, true},
		"so, the other way round":         {hill, "543210", true, true},
		"up and down":                     {"0u1 1u2 2d3 3d4 4d5", "012345", true, true},
		"up and down at once":             {"0u1 1d2", "012", true, true},
		"up, then four down":              {"0u1 1d2 2d3 3d4 4d5", "012345", true, true},
		"four up, then down":              {"0u1 1u2 2u3 3u4 4d5", "012345", true, true},
		"a peer, then four down":          {"0o1 1d2 2d3 3d4 4d5", "012345", true, true},
		"four up, then a peer":            {"0u1 1u2 2u3 3u4 4o5", "012345", true, true},
		"one more than may be":            {hill, "0123456", false, false},
		"one more, a node twice":          {hill, "0123454", false, false},
		"far more":                        {hill, strings.Repeat("01", 100), false, false},
		"a peer behind a peer":            {"0o1 1o2", "012", false, true},
		"a peer behind a peer, on a hill": {"0u1 1o2 2o3 3d4", "01234", false, true},
		"two peers, one up between":       {"0o1 1u2 2o3", "0123", false, true},
		"two peers, one down between":     {"0o1 1d2 2o3", "0123", false, true},
		"a peer behind a customer":        {"0d1 1o2", "012", false, true},
		"a provider behind a customer":    {"0d1 1u2", "012", false, true},
		"both behind a customer":          {"0d1 1o2 2u3", "0123", false, true},
		"both, the other way round":       {"0d1 1u2 2o3", "0123", false, true},
		"up behind a peer":                {"0o1 1u2", "012", false, true},
		"up behind a peer, at the end":    {"0u1 1u2 2o3 3u4", "01234", false, true},
		"up, down and up":                 {"0u1 1d2 2u3", "0123", false, true},
		"a valley at the very end":        {"0u1 1u2 2d3 3d4 4u5", "012345", false, true},
		"a valley at the very beginning":  {"0d1 1u2 2u3 3d4 4d5", "012345", false, true},
		"a peer at the very end":          {"0u1 1u2 2d3 3d4 4o5", "012345", false, true},
		"a node twice":                    {hill, "010", false, false},
		"a node twice, next to itself":    {hill, "0112", false, false},
		"a node twice, in a ring":         {"0u1 1u2 0d2", "0120", false, false},
		"a node twice, further on":        {"0u1 1u2 2u3 1d3", "01231", false, false},
		"a valley, then a node twice":     {"0d1 1u2", "0121", false, false},
		"a valley, then no relation":      {"0d1 1u2 2o3", "01234", false, false},
		"no relation at the beginning":    {hill, "0234", false, false},
		"no relation in between":          {hill, "01345", false, false},
		"no relation at the end":          {hill, "01235", false, false},
		"a node that is not there":        {hill, "06", false, false},
		"a node that is not there, ahead": {hill, "601", false, false},
	} {
		t.Run(name, func(t *testing.T) {
			l := relsOf(c.text)
			lookAtValleyFree(t, 5, l, digits(c.path), c.want, c.wantOk)
		})
	}
	for _, far := range append(farNumbers(), farRels()...) {
		for _, path := range [][]int{{far}, {far, far}, {far, 0}, {0, far}, {0, 1, far}, {far, 1, 0}, {0, far, 1}, {0, 1, 2, far, 3}} {
			lookAtValleyFree(t, 5, fullRels(3), path, false, false)
		}
	}
}

// TestRowsOfAllSteps has all rows of five steps, and all pieces of them.
func TestRowsOfAllSteps(t *testing.T) {
	free := 0
	for code := range 3 * 3 * 3 * 3 * 3 {
		var l []impl.Rel
		for a := range 5 {
			l = append(l, impl.Rel{A: a, B: a + 1, Kind: 1 + code%3})
			code /= 3
		}
		for from := range 5 {
			for to := from + 2; to <= mostSpeakers; to++ {
				path := []int{0, 1, 2, 3, 4, 5}[from:to]
				want, ok := valleyFreeByWords(l, path)
				lookAtValleyFree(t, 5, l, path, want, ok)
				back := slices.Clone(path)
				slices.Reverse(back)
				lookAtValleyFree(t, 5, l, back, want, true)
				if want && len(path) == mostSpeakers {
					free++
				}
			}
		}
	}
	if free != 6+5 { // so many ups ahead of downs, without a peer and with one
		t.Error(free)
	}
}

func TestWhoMayTellWhom(t *testing.T) {
	for b, wants := range map[byte]string{'d': "yes yes yes", 'o': "yes no no", 'u': "yes no no"} {
		for i, want := range strings.Fields(wants) {
			next := "dou"[i]
			l := relsOf(fmt.Sprintf("0%c1 0%c2", b, next))
			lookAtMayTell(t, 2, l, 0, 1, 2, want == "yes", true)
			turned := relsOf(fmt.Sprintf("0%c2 0%c1", b, next))
			lookAtMayTell(t, 2, turned, 0, 2, 1, want == "yes", true)
			middle := []impl.Rel{{A: 0, B: 1, Kind: 4 - l[0].Kind}, {A: 1, B: 2, Kind: l[1].Kind}}
			lookAtMayTell(t, 2, middle, 1, 0, 2, want == "yes", true)
			last := []impl.Rel{{A: 0, B: 5, Kind: 4 - l[0].Kind}, {A: 4, B: 5, Kind: 4 - l[1].Kind}}
			lookAtMayTell(t, 5, last, 5, 0, 4, want == "yes", true)
			// what b and next are to each other counts for nothing
			for _, between := range []string{"1d2", "1o2", "1u2"} {
				lookAtMayTell(t, 2, append(relsOf(between), l...), 0, 1, 2, want == "yes", true)
			}
		}
	}
}

func TestWhoCanNotBeAskedWhetherItMayTell(t *testing.T) {
	l := relsOf("0d1 0d2 1d2 0d3")
	lookAtMayTell(t, 4, l, 0, 1, 2, true, true)
	for name, c := range map[string][3]int{
		"b and next are alike":              {0, 1, 1},
		"a and b are alike":                 {0, 0, 1},
		"a and next are alike":              {0, 1, 0},
		"all are alike":                     {0, 0, 0},
		"a has no relation with b":          {1, 3, 2},
		"a has no relation with next":       {1, 2, 3},
		"a has no relation with both":       {4, 0, 1},
		"a has no relation with b, a node":  {0, 4, 1},
		"a has no relation with next, next": {0, 1, 4},
		"b is out of bounds":                {0, 5, 1},
		"next is out of bounds":             {0, 1, 5},
		"a is out of bounds":                {5, 0, 1},
		"b is below 0":                      {0, -1, 1},
		"next is below 0":                   {0, 1, -1},
		"a is below 0":                      {-1, 0, 1},
	} {
		t.Run(name, func(t *testing.T) { lookAtMayTell(t, 4, l, c[0], c[1], c[2], false, false) })
	}
	for _, far := range append(farNumbers(), farRels()...) {
		for _, c := range [][3]int{{far, 0, 1}, {0, far, 1}, {0, 1, far}, {far, far, 0}, {0, far, far}, {far, far, far}} {
			lookAtMayTell(t, 5, fullRels(1), c[0], c[1], c[2], false, false)
		}
	}
}

// busyRels has a node with just as many rows as may be: right to 0, over each of four others, and over one more way.
const busyRels = "0u1 0u2 0u3 0u4 0o5 1d2 1o5 2o5 3o5 4o5"

func TestProblemsOfRelations(t *testing.T) {
	for name, c := range map[string]struct {
		text string
		want impl.Spp
	}{
		"a customer":                             {"0u1", sppOf("10")},
		"a peer":                                 {"0o1", sppOf("10")},
		"a provider":                             {"0d1", sppOf("10")},
		"nobody has a row":                       {"1d2 1o3 2u3", sppOf("", "", "")},
		"a node without a row":                   {"0o1 1o2 1d3", sppOf("10", "", "310")},
		"a chain up":                             {"0d1 1d2 2d3 3d4 4d5", sppOf("10", "210", "3210", "43210", "543210")},
		"a chain down":                           {"0u1 1u2 2u3 3u4 4u5", sppOf("10", "210", "3210", "43210", "543210")},
		"a customer, a peer, a provider":         {"0u1 0o2 0d3", sppOf("10", "20", "30")},
		"customers ahead of peers, of providers": {"0d1 0u3 0u4 1d2 2d3 1o4", sppOf("1230 140 10", "230 210 2140", "30 3210 32140", "40 41230")},
		"peers ahead of providers":               {"0d1 0u2 1o2", sppOf("120 10", "20")},
		"customers ahead of peers":               {"0o1 0u2 1d2", sppOf("120 10", "20 210")},
		"customers ahead of providers":           {"0d1 0u2 1d2", sppOf("120 10", "20 210")},
		"the shorter of two by customers":        {"0u2 0u3 1d2 1d3 2d3", sppOf("120 130 1230", "20 230 2130", "30 320 3120")},
		"the shorter ahead of the lesser":        {"0u3 1d2 1d3 2d3", sppOf("130 1230", "230 2130", "30")},
		"the lesser of those as long":            {"0u2 0u3 1d3 1d2", sppOf("120 130", "20 2130", "30 3120")},
		"the lesser further on":                  {"0u4 0u3 1d2 2d4 2d3", sppOf("1230 1240", "230 240", "30 3240", "40 4230")},
		"the lesser of two peers":                {"1o3 1o2 0u3 0u2", sppOf("120 130", "20", "30")},
		"the lesser of two providers":            {"1u3 1u2 0o3 0o2", sppOf("120 130", "20", "30")},
		"over two peers nobody goes":             {"0u1 1o2 2o3", sppOf("10", "210", "")},
		"as many rows as may be":                 {busyRels, sppOf("10 120", "20 210", "30", "40", "50 510 520 530 540 5120")},
		"the second node's kind alone counts":    {"0o2 0d3 1u2 1u3", sppOf("120 130", "20", "30")},
		"a ring":                                 {"0u1 0u2 0u3 1d2 2d3 1u3", sppOf("10 120 1230 130 1320", "20 230 2310 210 2130", "30 310 3120 320 3210")},
	} {
		t.Run(name, func(t *testing.T) {
			l := relsOf(c.text)
			lookAtSppOf(t, len(c.want.Ranked), l, c.want, true)
			slices.Reverse(l)
			lookAtSppOf(t, len(c.want.Ranked), l, c.want, true)
			lookAtRels(t, len(c.want.Ranked), l)
		})
	}
}

func TestProblemsOfNoRelation(t *testing.T) {
	for nodes := 1; nodes <= mostSppNodes; nodes++ {
		lookAtSppOf(t, nodes, nil, impl.Spp{Ranked: make([][][]int, nodes)}, true)
		lookAtSppOf(t, nodes, relsOf("0u1"), impl.Spp{Ranked: append([][][]int{{{1, 0}}}, make([][][]int, nodes-1)...)}, true)
	}
}

// TestProblemsWithTooManyRows has one row more than may be, of one node alone.
func TestProblemsWithTooManyRows(t *testing.T) {
	for name, texts := range map[string][2]string{
		"of the last node":  {busyRels, busyRels + " 3d4"},
		"of the first node": {"0o1 0u2 0u3 0u4 0u5 1o2 1o3 1o4 1o5 2d3", "0o1 0u2 0u3 0u4 0u5 1o2 1o3 1o4 1o5 2d3 4d5"},
		"of a middle node":  {"0u1 0u2 0o3 0u4 0u5 1d2 1o3 2o3 3o4 3o5", "0u1 0u2 0o3 0u4 0u5 1d2 1o3 2o3 3o4 3o5 4d5"},
	} {
		just, more := relsOf(texts[0]), relsOf(texts[1])
		s, ok := impl.SppOf(5, just)
		most := 0
		for _, rows := range s.Ranked {
			most = max(most, len(rows))
		}
		if !ok || most != mostRanked {
			t.Errorf("%s: %v, %v", name, s, ok)
		}
		lookAtNoRing(t, 5, more, true)
		lookAtSppOf(t, 5, more, impl.Spp{}, false)
		for node := -1; node <= 6; node++ {
			lookAtRoute(t, 5, more, node, "")
		}
		for node := 1; node <= 5; node++ {
			if path, ok := impl.RouteOf(5, just, node); !ok || len(path) < 2 {
				t.Errorf("%s: RouteOf %d = %v, %v", name, node, path, ok)
			}
		}
	}
	for kind := 1; kind <= 3; kind += 2 {
		lookAtSppOf(t, 5, fullRels(kind), impl.Spp{}, false)
		lookAtRoute(t, 5, fullRels(kind), 1, "")
	}
	lookAtSppOf(t, 5, fullRels(2), sppOf("10", "20", "30", "40", "50"), true)
}

func TestRoutesOfNodes(t *testing.T) {
	for name, c := range map[string]struct {
		nodes  int
		text   string
		routes string
	}{
		"one node":             {1, "0u1", "10"},
		"its best row":         {2, "0d1 0u2 1o2", "120 20"},
		"a node that has none": {3, "0o1 1o2 1d3", "10 - 310"},
		"nobody has one":       {3, "1d2 1o3 2u3", "- - -"},
		"no relation":          {5, "", "- - - - -"},
		"a chain up":           {5, "0d1 1d2 2d3 3d4 4d5", "10 210 3210 43210 543210"},
		"a chain down":         {5, "0u1 1u2 2u3 3u4 4u5", "10 210 3210 43210 543210"},
		"not the first, which the next has not chosen": {3, "0u1 1u2 0o2 2d3", "10 210 3210"},
		"a longer one over a customer":                 {4, "0d1 0u3 0u4 1d2 2d3 1o4", "1230 230 30 40"},
		"a ring":                                       {3, "0u1 0u2 0u3 1d2 2d3 1u3", "10 20 30"},
		"a ring with one way out":                      {3, "0u1 1d2 2d3 1u3", "10 2310 310"},
		"a ring with one way up":                       {3, "0d1 1d2 2d3 1u3", "10 210 3210"},
		"as many rows as may be":                       {5, busyRels, "10 20 30 40 50"},
	} {
		t.Run(name, func(t *testing.T) {
			l := relsOf(c.text)
			for i, want := range strings.Fields(c.routes) {
				lookAtRoute(t, c.nodes, l, i+1, strings.Trim(want, "-"))
			}
			for _, far := range append(farNumbers(), 0, c.nodes+1) {
				lookAtRoute(t, c.nodes, l, far, "")
			}
		})
	}
}

// TestAllSmallRelations has all relations of up to three nodes and 0, against models of the tests' own.
func TestAllSmallRelations(t *testing.T) {
	rows := map[int][][]int{}
	for nodes := 1; nodes <= 3; nodes++ {
		rows[nodes] = [][]int{{}}
		for i := 0; i < len(rows[nodes]); i++ {
			for node := 0; node <= nodes && len(rows[nodes][i]) < 5; node++ {
				if !slices.Contains(rows[nodes][i], node) {
					rows[nodes] = append(rows[nodes], append(slices.Clone(rows[nodes][i]), node))
				}
			}
		}
	}
	for _, c := range []struct{ nodes, all, rings int }{{1, 4, 0}, {2, 64, 2}, {3, 4096, 488}} {
		kinds := map[relsKind]int{}
		eachRels(c.nodes, 1, func(l []impl.Rel) {
			kinds[lookAtRels(t, c.nodes, l)]++
			lookAtTies(t, c.nodes, l)
			for _, row := range rows[c.nodes] {
				want, wantOk := valleyFreeByWords(l, row)
				lookAtValleyFree(t, c.nodes, l, row, want, wantOk)
			}
		})
		rings := kinds[relsKind{false, true}] + kinds[relsKind{false, false}]
		if rings+kinds[relsKind{true, true}]+kinds[relsKind{true, false}] != c.all || rings != c.rings {
			t.Error(c, kinds)
		}
	}
}

func TestManyGreaterRelations(t *testing.T) {
	r := rand.New(rand.NewSource(112))
	kinds := map[relsKind]int{}
	free := map[[2]bool]int{}
	for i := range 1500 {
		nodes := 4 + i%2
		l := mixedRels(nodes, 30+r.Intn(71), i%4 == 0, r)
		kinds[lookAtRels(t, nodes, l)]++
		if i%8 == 0 {
			lookAtTies(t, nodes, l)
		}
		for range 40 {
			row := r.Perm(nodes + 1)[:r.Intn(nodes+2)]
			if r.Intn(10) == 0 {
				row = append(row, r.Intn(mostSpeakers))
			}
			want, wantOk := valleyFreeByWords(l, row)
			lookAtValleyFree(t, nodes, l, row, want, wantOk)
			free[[2]bool{want, wantOk}]++
		}
	}
	for _, kind := range []relsKind{{false, false}, {false, true}, {true, false}, {true, true}} {
		if kinds[kind] < 100 {
			t.Error("not met:", kind, kinds)
		}
	}
	for _, kind := range [][2]bool{{false, false}, {false, true}, {true, true}} {
		if free[kind] < 1000 {
			t.Error("not met:", kind, free)
		}
	}
}

// TestWhereNobodyIsItsOwnCustomerAllSettles is promise 11, asked of the program alone.
func TestWhereNobodyIsItsOwnCustomerAllSettles(t *testing.T) {
	met := 0
	look := func(nodes int, l []impl.Rel) {
		noRing, ok := impl.NoRing(nodes, l)
		if !ok {
			t.Fatalf("NoRing(%d, %v) can't be asked", nodes, l)
		}
		if _, good := impl.SppOf(nodes, l); noRing && good {
			met++
			lookAtNoWheel(t, nodes, l)
		}
	}
	for nodes := 1; nodes <= 3; nodes++ {
		eachRels(nodes, 1, func(l []impl.Rel) { look(nodes, l) })
	}
	eachRels(4, 101, func(l []impl.Rel) { look(4, l) })
	r := rand.New(rand.NewSource(113))
	for i := range 6000 {
		look(5, mixedRels(5, 30+r.Intn(60), i%2 == 0, r))
	}
	if met < 10000 {
		t.Error(met)
	}
}

// TestRingsTurnNoWheelWithinTheBounds: of rows by the same kind the shorter ones come first, so each spoke of a wheel would be longer than the next one, all round. Other rankings of the same rows do turn.
func TestRingsTurnNoWheelWithinTheBounds(t *testing.T) {
	rings := 0
	look := func(nodes int, l []impl.Rel) {
		noRing, _ := impl.NoRing(nodes, l)
		if _, good := impl.SppOf(nodes, l); !noRing && good {
			rings++
			lookAtNoWheel(t, nodes, l)
		}
	}
	for nodes := 2; nodes <= 3; nodes++ {
		eachRels(nodes, 1, func(l []impl.Rel) { look(nodes, l) })
	}
	eachRels(4, 103, func(l []impl.Rel) { look(4, l) })
	r := rand.New(rand.NewSource(114))
	for range 4000 {
		look(5, mixedRels(5, 30+r.Intn(60), false, r))
	}
	if rings < 1500 {
		t.Error(rings)
	}
	ring := relsOf("0u1 0u2 0u3 1d2 2d3 1u3")
	lookAtNoRing(t, 3, ring, false)
	lookAtNoWheel(t, 3, ring)
	turned := ringOf(3)
	for i, paths := range turned.Ranked {
		s, _ := impl.SppOf(3, ring)
		for _, path := range paths {
			if !slices.ContainsFunc(s.Ranked[i], func(row []int) bool { return slices.Equal(row, path) }) {
				t.Errorf("%v has no row %v", s, path)
			}
		}
	}
	lookAtWheel(t, turned, true)
}

// TestPathsComeOnlyWhereTheyMayBeTold puts MayTell, KindTo and RouteOf side by side: each on a route was told of what is behind it.
func TestPathsComeOnlyWhereTheyMayBeTold(t *testing.T) {
	r := rand.New(rand.NewSource(115))
	long := 0
	for i := range 2000 {
		nodes := 3 + i%3
		l := mixedRels(nodes, 30+r.Intn(50), i%2 == 0, r)
		for node := 1; node <= nodes; node++ {
			path, ok := impl.RouteOf(nodes, l, node)
			if !ok {
				continue
			}
			if free, ok := impl.IsValleyFree(nodes, l, path); !free || !ok || path[0] != node || path[len(path)-1] != 0 {
				t.Errorf("%v: RouteOf %d is %v: %v, %v", l, node, path, free, ok)
			}
			for k := 1; k+1 < len(path); k++ {
				long++
				if may, ok := impl.MayTell(nodes, l, path[k], path[k-1], path[k+1]); !may || !ok {
					t.Errorf("%v: %v is not to be told by %d: %v, %v", l, path, path[k], may, ok)
				}
				if rest, ok := impl.RouteOf(nodes, l, path[k]); !slices.Equal(rest, path[k:]) || !ok {
					t.Errorf("%v: %d goes by %v, but %v, %v", l, node, path, rest, ok)
				}
			}
		}
	}
	if long < 1500 {
		t.Error(long)
	}
}

// TestTheOrderOfRelationsCountsForNothing asks again and again, with the same ones in another order.
func TestTheOrderOfRelationsCountsForNothing(t *testing.T) {
	r := rand.New(rand.NewSource(116))
	for _, c := range goodRels() {
		want, wantOk := impl.SppOf(c.nodes, c.l)
		ring, _ := impl.NoRing(c.nodes, c.l)
		route, _ := impl.RouteOf(c.nodes, c.l, c.nodes)
		for range 20 {
			lookAtSppOf(t, c.nodes, c.l, want, wantOk)
			mixed := slices.Clone(c.l)
			r.Shuffle(len(mixed), func(i, k int) { mixed[i], mixed[k] = mixed[k], mixed[i] })
			lookAtSppOf(t, c.nodes, mixed, want, wantOk)
			lookAtNoRing(t, c.nodes, mixed, ring)
			lookAtRoute(t, c.nodes, mixed, c.nodes, pathText(route))
		}
	}
}

// refusesRels hands over what would be good beside good relations, and what would not.
func refusesRels(t *testing.T, name string, nodes int, l []impl.Rel) {
	t.Helper()
	if got, ok := impl.NoRing(nodes, l); got || ok {
		t.Errorf("%s: NoRing: %v, %v", name, got, ok)
	}
	if got, ok := impl.SppOf(nodes, l); len(got.Ranked) != 0 || ok {
		t.Errorf("%s: SppOf: %v, %v", name, got, ok)
	}
	for _, path := range [][]int{nil, {0}, {0, 1}, {1, 0}, {1, 2}, {0, 1, 2}, {2, 1, 0}, {0, 1, 2, 3, 4, 5}, {0, 0}, {0, 6}, {-1, 0}} {
		if got, ok := impl.IsValleyFree(nodes, l, path); got || ok {
			t.Errorf("%s: IsValleyFree %v: %v, %v", name, path, got, ok)
		}
	}
	for a := -1; a <= 6; a++ {
		if got, ok := impl.RouteOf(nodes, l, a); len(got) != 0 || ok {
			t.Errorf("%s: RouteOf %d: %v, %v", name, a, got, ok)
		}
		for b := -1; b <= 6; b++ {
			if got, ok := impl.KindTo(nodes, l, a, b); got != 0 || ok {
				t.Errorf("%s: KindTo %d, %d: %v, %v", name, a, b, got, ok)
			}
			if got, ok := impl.MayTell(nodes, l, a, b, (a+b+1)%3); got || ok {
				t.Errorf("%s: MayTell %d, %d: %v, %v", name, a, b, got, ok)
			}
		}
	}
}

func TestRelationsThatAreNotGoodAreRefused(t *testing.T) {
	for name, c := range badRels() {
		refusesRels(t, name, c.nodes, c.l)
	}
}

// answersOfRels has all that is told of relations, as one text.
func answersOfRels(nodes int, l []impl.Rel, path []int) string {
	text := fmt.Sprint(impl.GoodRels(nodes, l))
	add := func(got any, ok bool) { text += fmt.Sprint(" ", got, ok) }
	noRing, ok := impl.NoRing(nodes, l)
	add(noRing, ok)
	free, ok := impl.IsValleyFree(nodes, l, path)
	add(free, ok)
	s, ok := impl.SppOf(nodes, l)
	add(s, ok)
	for node := range mostSpeakers {
		route, ok := impl.RouteOf(nodes, l, node)
		add(route, ok)
		kind, ok := impl.KindTo(nodes, l, node, 0)
		add(kind, ok)
		may, ok := impl.MayTell(nodes, l, node, 0, 1)
		add(may, ok)
	}
	return text
}

// lookAtRelsMemory hands all in with memory behind it, and writes into all that is answered.
func lookAtRelsMemory(t *testing.T, nodes int, l []impl.Rel, path []int, behind impl.Rel) {
	t.Helper()
	given, givenPath := withBehind(l, behind), withBehind(path, behindNumber)
	kept, keptPath := whole(given), whole(givenPath)
	want := answersOfRels(nodes, slices.Clone(l), slices.Clone(path))
	if got := answersOfRels(nodes, given, givenPath); got != want {
		t.Errorf("%d, %v, %v: what lies behind is read: %s, not %s", nodes, l, path, got, want)
	}
	s, _ := impl.SppOf(nodes, given)
	lists := [][]int{}
	for _, rows := range s.Ranked {
		lists = append(lists, rows...)
	}
	for node := range mostSpeakers {
		route, _ := impl.RouteOf(nodes, given, node)
		lists = append(lists, route)
	}
	texts := make([]string, len(lists))
	for i, list := range lists {
		texts[i] = pathText(list)
	}
	for i, list := range lists {
		overwrite(list, -9)
		for k := i + 1; k < len(lists); k++ {
			if pathText(lists[k]) != texts[k] {
				t.Errorf("%v: writing into one list makes another one %v", l, lists[k])
			}
		}
	}
	for i, rows := range s.Ranked {
		overwrite(rows, []int{-9})
		for _, others := range s.Ranked[i+1:] {
			if slices.ContainsFunc(others, func(row []int) bool { return len(row) == 1 }) {
				t.Errorf("%v: writing into one list of rows makes another one %v", l, others)
			}
		}
	}
	overwrite(s.Ranked, nil)
	if !slices.Equal(whole(given), kept) || !slices.Equal(whole(givenPath), keptPath) {
		t.Errorf("%v, %v became %v, %v", kept, keptPath, whole(given), whole(givenPath))
	}
	if got := answersOfRels(nodes, l, path); got != want {
		t.Errorf("%v: once written into, it answers %s, not %s", l, got, want)
	}
}

func TestRelationsAreNotWrittenIntoNorShared(t *testing.T) {
	for _, behind := range []impl.Rel{{A: -7, B: -7, Kind: -7}, {A: 0, B: 1, Kind: 2}, {A: 1, B: 2, Kind: 1}} {
		for _, c := range goodRels() {
			for _, path := range [][]int{nil, {1}, {1, 0}, {0, 1, 2}, {3, 2, 1, 0}, {0, 1, 2, 3, 4, 5}, {0, 1, 0}, {5, 4, 3, 2, 1, 0, 1}} {
				lookAtRelsMemory(t, c.nodes, c.l, path, behind)
			}
		}
		for _, c := range badRels() {
			if len(c.l) < 100 {
				lookAtRelsMemory(t, c.nodes, c.l, []int{1, 0}, behind)
			}
		}
	}
}

// TestWhatLiesBehindRelationsIsNotReadAlsoWhereItIsGood cuts lists short whose rest would be as good.
func TestWhatLiesBehindRelationsIsNotReadAlsoWhereItIsGood(t *testing.T) {
	all := relsOf("0u1 1u2 0d2 2d3")
	lookAtNoRing(t, 3, all, false)
	lookAtNoRing(t, 3, all[:2], true)
	lookAtKindTo(t, 3, all[:2], 0, 2, 0, false)
	lookAtKindTo(t, 3, all[:0], 0, 1, 0, false)
	lookAtMayTell(t, 3, all[:3], 2, 1, 3, false, false)
	lookAtValleyFree(t, 3, all[:3], []int{1, 2, 3}, false, false)
	lookAtValleyFree(t, 3, all, []int{0, 1, 2, 3}[:3], true, true)
	lookAtValleyFree(t, 3, all, []int{0, 1, 0}[:2], true, true)
	lookAtValleyFree(t, 3, all, []int{0, 1}[:1], false, false)
	lookAtSppOf(t, 3, all[:2], sppOf("10", "210", ""), true)
	lookAtRoute(t, 3, all[:3], 3, "")
	lookAtRoute(t, 3, all, 3, "3210")
	twice := relsOf("0u1 0u1")
	if !impl.GoodRels(1, twice[:1]) || impl.GoodRels(1, twice) {
		t.Error("a relation behind the length counts")
	}
}

func TestTwoAnswersOfRelationsShareNoMemory(t *testing.T) {
	l := relsOf("0u1 0u2 1d2")
	first, _ := impl.SppOf(2, l)
	second, _ := impl.SppOf(2, l)
	want := sppOf("10 120", "20 210")
	overwrite(first.Ranked[0][0], -9)
	overwrite(first.Ranked[1], []int{-9})
	overwrite(first.Ranked, nil)
	if third, ok := impl.SppOf(2, l); !sameSpp(second, want) || !sameSpp(third, want) || !ok {
		t.Error(second, third, ok)
	}
	route, _ := impl.RouteOf(2, l, 2)
	other, _ := impl.RouteOf(2, l, 2)
	overwrite(route, -9)
	if !slices.Equal(other, []int{2, 0}) {
		t.Error(other)
	}
	lookAtRoute(t, 2, l, 2, "20")
	if !slices.Equal(l, relsOf("0u1 0u2 1d2")) {
		t.Error(l)
	}
}

// TestRelationsStandInAMap looks for a range over a map that is handed in, and for a delete.
func TestRelationsStandInAMap(t *testing.T) {
	parsed, err := parser.ParseFile(token.NewFileSet(), "../impl/l11_customer.go", nil, parser.SkipObjectResolution)
	if err != nil {
		t.Fatal(err)
	}
	ranges, deletes := 0, 0
	for _, decl := range parsed.Decls {
		f, is := decl.(*ast.FuncDecl)
		if !is {
			continue
		}
		held := map[string]bool{}
		for _, field := range f.Type.Params.List {
			if _, is := field.Type.(*ast.MapType); is {
				for _, name := range field.Names {
					held[name.Name] = true
				}
			}
		}
		ast.Inspect(f, func(n ast.Node) bool {
			switch x := n.(type) {
			case *ast.RangeStmt:
				if over, is := x.X.(*ast.Ident); is && held[over.Name] {
					ranges++
				}
			case *ast.CallExpr:
				if called, is := x.Fun.(*ast.Ident); is && called.Name == "delete" {
					deletes++
				}
			}
			return true
		})
	}
	if ranges == 0 || deletes == 0 {
		t.Error(ranges, deletes)
	}
}
