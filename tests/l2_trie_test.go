package tests

import (
	"cmp"
	"math"
	"math/rand"
	"slices"
	"testing"

	"loop.example/g00344/impl"
)

const mostRoutes = 30
const mostValue = 1000000
const mostNodes = 2000

func prefixAt(addr int, length int) impl.Prefix {
	return impl.Prefix{Addr: addr >> (32 - length) << (32 - length), Len: length}
}

func entryAt(addr int, length int, value int) impl.Entry {
	return impl.Entry{Prefix: prefixAt(addr, length), Value: value}
}

func compareEntries(a, b impl.Entry) int {
	return cmp.Or(cmp.Compare(a.Prefix.Addr, b.Prefix.Addr), cmp.Compare(a.Prefix.Len, b.Prefix.Len))
}

// tableOf puts entries in their order, each prefix once.
func tableOf(l ...impl.Entry) []impl.Entry {
	l = slices.Clone(l)
	slices.SortStableFunc(l, compareEntries)
	return slices.CompactFunc(l, func(a, b impl.Entry) bool { return a.Prefix == b.Prefix })
}

// chainTable has prefixes within prefixes by the bits of one address, of the lengths from to to.
func chainTable(addr, from, to int) []impl.Entry {
	var l []impl.Entry
	for length := from; length <= to; length++ {
		l = append(l, entryAt(addr, length, 100+length))
	}
	return tableOf(l...)
}

// spreadTable has many prefixes of Len 32 that part from each other as early as they can.
func spreadTable(many int) []impl.Entry {
	var l []impl.Entry
	for i := range many {
		l = append(l, entryAt(i<<27|0x05a5a5a5, 32, i))
	}
	return tableOf(l...)
}

// mixedTable takes addresses near each other, so that prefixes stand within prefixes, beside them, and far off.
func mixedTable(many int, seed int64) []impl.Entry {
	r := rand.New(rand.NewSource(seed))
	near := []int{0, lastAddr, 10 << 24, r.Intn(1 << 32), r.Intn(1 << 32)}
	var l []impl.Entry
	for len(l) < many {
		addr := near[r.Intn(len(near))] ^ 1<<r.Intn(32)
		if r.Intn(4) == 0 {
			addr = r.Intn(1 << 32)
		}
		l = tableOf(append(l, entryAt(addr, r.Intn(33), r.Intn(mostValue+1)))...)
	}
	return l
}

func goodTables() [][]impl.Entry {
	l := [][]impl.Entry{
		nil,
		{},
		{{}},
		{{Value: mostValue}},
		{entryAt(0, 32, 0)},
		{entryAt(lastAddr, 32, mostValue)},
		{entryAt(0, 1, 1), entryAt(1<<31, 1, 2)},
		{entryAt(0, 0, 1), entryAt(0, 1, 2), entryAt(1<<31, 1, 3)},
		{entryAt(0, 0, 7), entryAt(0, 32, 8), entryAt(lastAddr, 32, 9)},
		{entryAt(10<<24, 8, 1), entryAt(10<<24|1<<16, 16, 2), entryAt(11<<24, 8, 3)},
		spreadTable(2),
		spreadTable(mostRoutes),
	}
	for _, addr := range []int{0, lastAddr, 0x55555555, 0xaaaaaaaa, 10<<24 | 1<<16 | 5} {
		l = append(l, chainTable(addr, 0, 29), chainTable(addr, 3, 32), chainTable(addr, 31, 32))
	}
	for many := 0; many <= mostRoutes; many++ {
		for seed := range 3 {
			l = append(l, mixedTable(many, int64(many*10+seed)))
		}
	}
	return l
}

// probesOf has the first and the last address of each prefix and those beside them.
func probesOf(l []impl.Entry) []int {
	probes := []int{0, 1, 1<<31 - 1, 1 << 31, lastAddr - 1, lastAddr, 10<<24 | 1<<16 | 5}
	for _, e := range l {
		for _, addr := range []int{firstOf(e.Prefix) - 1, firstOf(e.Prefix), lastOf(e.Prefix), lastOf(e.Prefix) + 1} {
			if addr >= 0 && addr <= lastAddr {
				probes = append(probes, addr)
			}
		}
	}
	return probes
}

func longestByHand(l []impl.Entry, addr int) (impl.Entry, bool) {
	for length := 32; length >= 0; length-- {
		for _, e := range l {
			if e.Prefix == prefixAt(addr, length) {
				return e, true
			}
		}
	}
	return impl.Entry{}, false
}

func mustBuild(t *testing.T, l []impl.Entry) []impl.TrieNode {
	t.Helper()
	trie, ok := impl.BuildTrie(l)
	if !ok || len(trie) == 0 {
		t.Fatalf("BuildTrie(%v) = %v, %v", l, trie, ok)
	}
	return trie
}

func mustInsert(t *testing.T, trie []impl.TrieNode, e impl.Entry) []impl.TrieNode {
	t.Helper()
	grown, ok := impl.InsertIn(trie, e.Prefix, e.Value)
	if !ok {
		t.Fatalf("InsertIn(%v, %v) = %v, %v", trie, e, grown, ok)
	}
	return grown
}

// builtBackwards is a good trie with its nodes in another order than BuildTrie's.
func builtBackwards(t *testing.T, l []impl.Entry) []impl.TrieNode {
	t.Helper()
	trie := []impl.TrieNode{{}}
	for i := len(l) - 1; i >= 0; i-- {
		trie = mustInsert(t, trie, l[i])
	}
	return trie
}

func without(l []impl.Entry, i int) []impl.Entry {
	return slices.Delete(slices.Clone(l), i, i+1)
}

func lookAt(t *testing.T, trie []impl.TrieNode, l []impl.Entry) {
	t.Helper()
	for _, addr := range probesOf(l) {
		want, wantOk := longestByHand(l, addr)
		if e, ok := impl.LongestIn(l, addr); e != want || ok != wantOk {
			t.Errorf("LongestIn(%v, %d) = %v, %v, not %v, %v", l, addr, e, ok, want, wantOk)
		}
		if v, depth, ok := impl.LookUp(trie, addr); v != want.Value || depth != want.Prefix.Len || ok != wantOk {
			t.Errorf("LookUp of %v at %d = %d, %d, %v, not %v, %v", l, addr, v, depth, ok, want, wantOk)
		}
	}
}

func TestMaxRoutesIsAsSaid(t *testing.T) {
	if impl.MaxRoutes != mostRoutes {
		t.Error(impl.MaxRoutes)
	}
}

func TestBitByBitOneComesToTheLongestPrefix(t *testing.T) {
	for _, l := range goodTables() {
		if !impl.GoodTable(l) {
			t.Fatalf("GoodTable(%v)", l)
		}
		trie := mustBuild(t, l)
		if !impl.GoodTrie(trie) {
			t.Fatalf("GoodTrie of %v: %v", l, trie)
		}
		lookAt(t, trie, l)
		lookAt(t, builtBackwards(t, l), l)
	}
}

func TestLookUpsThatAreKnown(t *testing.T) {
	l := []impl.Entry{entryAt(0, 0, 5), entryAt(10<<24, 8, 0), entryAt(10<<24|1<<16, 16, 1000000), entryAt(10<<24|1<<16|7, 32, 3)}
	known := map[int]impl.Entry{
		0:                    l[0],
		10<<24 - 1:           l[0],
		10 << 24:             l[1],
		10<<24 | 1<<16:       l[2],
		10<<24 | 1<<16 | 6:   l[2],
		10<<24 | 1<<16 | 7:   l[3],
		10<<24 | 1<<16 | 8:   l[2],
		10<<24 | 2<<16:       l[1],
		10<<24 | 0x00ffffff:  l[1],
		11 << 24:             l[0],
		lastAddr:             l[0],
		10<<24 | 1<<16 - 1:   l[1],
		10<<24 | 1<<16 | 255: l[2],
	}
	trie := mustBuild(t, l)
	for addr, want := range known {
		if e, ok := impl.LongestIn(l, addr); e != want || !ok {
			t.Errorf("LongestIn at %d = %v, %v, not %v", addr, e, ok, want)
		}
		if v, depth, ok := impl.LookUp(trie, addr); v != want.Value || depth != want.Prefix.Len || !ok {
			t.Errorf("LookUp at %d = %d, %d, %v, not %v", addr, v, depth, ok, want)
		}
	}
	bare := mustBuild(t, l[1:])
	if v, depth, ok := impl.LookUp(bare, 11<<24); v != 0 || depth != 0 || ok {
		t.Error("beside all prefixes:", v, depth, ok)
	}
	if e, ok := impl.LongestIn(l[1:], 11<<24); e != (impl.Entry{}) || ok {
		t.Error("beside all prefixes:", e, ok)
	}
}

func TestTrieEntriesGiveTheTableBack(t *testing.T) {
	for _, l := range goodTables() {
		for _, trie := range [][]impl.TrieNode{mustBuild(t, l), builtBackwards(t, l)} {
			if got, ok := impl.TrieEntries(trie); !slices.Equal(got, l) || !ok {
				t.Errorf("TrieEntries of %v = %v, %v", l, got, ok)
			}
		}
	}
}

func TestTriesThatAreKnown(t *testing.T) {
	known := []struct {
		table []impl.Entry
		trie  []impl.TrieNode
	}{
		{nil, []impl.TrieNode{{}}},
		{[]impl.Entry{{}}, []impl.TrieNode{{Has: true}}},
		{[]impl.Entry{{Value: 9}}, []impl.TrieNode{{Has: true, Value: 9}}},
		{[]impl.Entry{entryAt(0, 1, 4)}, []impl.TrieNode{{Zero: 1}, {Has: true, Value: 4}}},
		{[]impl.Entry{entryAt(1<<31, 1, 4)}, []impl.TrieNode{{One: 1}, {Has: true, Value: 4}}},
		{
			[]impl.Entry{entryAt(0, 0, 1), entryAt(0, 2, 2), entryAt(1<<30, 2, 3), entryAt(1<<31, 1, 4), entryAt(5<<29, 3, 5)},
			[]impl.TrieNode{{Zero: 1, One: 4, Has: true, Value: 1}, {Zero: 2, One: 3}, {Has: true, Value: 2}, {Has: true, Value: 3}, {Zero: 5, Has: true, Value: 4}, {One: 6}, {Has: true, Value: 5}},
		},
	}
	for _, k := range known {
		if trie, ok := impl.BuildTrie(k.table); !slices.Equal(trie, k.trie) || !ok {
			t.Errorf("BuildTrie(%v) = %v, %v, not %v", k.table, trie, ok, k.trie)
		}
	}
}

func TestBuildTrieIsInsertInOfEachEntry(t *testing.T) {
	for _, l := range goodTables() {
		trie := []impl.TrieNode{{}}
		for _, e := range l {
			trie = mustInsert(t, trie, e)
		}
		if built := mustBuild(t, l); !slices.Equal(built, trie) {
			t.Errorf("BuildTrie(%v) = %v, not %v", l, built, trie)
		}
	}
}

func TestInsertInOfAPrefixThatIsThereTellsItsNewValue(t *testing.T) {
	for _, l := range goodTables() {
		trie := mustBuild(t, l)
		for i, e := range l {
			for _, value := range []int{0, 1, mostValue} {
				changed := slices.Clone(l)
				changed[i].Value = value
				grown := mustInsert(t, trie, impl.Entry{Prefix: e.Prefix, Value: value})
				if !slices.Equal(grown, mustBuild(t, changed)) {
					t.Errorf("InsertIn of %v in %v with %d = %v", e.Prefix, l, value, grown)
				}
			}
		}
	}
}

func TestInsertInOfANodeThatIsThereWithoutEntry(t *testing.T) {
	trie := mustBuild(t, []impl.Entry{entryAt(0xaaaaaaaa, 5, 3)})
	for length := range 5 {
		want := slices.Clone(trie)
		want[length].Has, want[length].Value = true, 77
		if grown := mustInsert(t, trie, entryAt(0xaaaaaaaa, length, 77)); !slices.Equal(grown, want) {
			t.Errorf("of Len %d: %v, not %v", length, grown, want)
		}
	}
}

// grownByHand adds the nodes that are not there behind all.
func grownByHand(trie []impl.TrieNode, e impl.Entry) []impl.TrieNode {
	grown, at := slices.Clone(trie), 0
	for depth := 0; depth < e.Prefix.Len; depth++ {
		half := &grown[at].Zero
		if e.Prefix.Addr&(1<<(31-depth)) != 0 {
			half = &grown[at].One
		}
		at = *half
		if at == 0 {
			at = len(grown)
			*half = at
			grown = append(grown, impl.TrieNode{})
		}
	}
	grown[at].Has, grown[at].Value = true, e.Value
	return grown
}

func TestInsertInAddsWhatIsNotThereBehindAllInOrder(t *testing.T) {
	for _, l := range goodTables() {
		for _, trie := range [][]impl.TrieNode{mustBuild(t, l), builtBackwards(t, l)} {
			for _, e := range []impl.Entry{entryAt(0, 0, 0), entryAt(0, 32, 1), entryAt(lastAddr, 32, 2), entryAt(0x0a010005, 24, 3), entryAt(1<<31, 1, mostValue)} {
				_, isThere := slices.BinarySearchFunc(l, e, compareEntries)
				grown, ok := impl.InsertIn(trie, e.Prefix, e.Value)
				if len(l) == mostRoutes && !isThere {
					if len(grown) != 0 || ok {
						t.Errorf("InsertIn of %v, one more than MaxRoutes: %v, %v", e, grown, ok)
					}
					continue
				}
				if want := grownByHand(trie, e); !slices.Equal(grown, want) || !ok {
					t.Errorf("InsertIn of %v in %v = %v, %v, not %v", e, trie, grown, ok, want)
				}
			}
		}
	}
}

func TestRemoveFromTakesOutOneEntry(t *testing.T) {
	for _, l := range goodTables() {
		for _, trie := range [][]impl.TrieNode{mustBuild(t, l), builtBackwards(t, l)} {
			for i, e := range l {
				left := without(l, i)
				less, ok := impl.RemoveFrom(trie, e.Prefix)
				if !slices.Equal(less, mustBuild(t, left)) || !ok {
					t.Errorf("RemoveFrom of %v from %v = %v, %v", e.Prefix, l, less, ok)
				}
			}
		}
	}
}

func TestRemoveFromDownToTheRootAlone(t *testing.T) {
	for _, l := range goodTables() {
		trie := mustBuild(t, l)
		for len(l) > 0 {
			i := len(l) / 2
			less, ok := impl.RemoveFrom(trie, l[i].Prefix)
			if !ok {
				t.Fatalf("RemoveFrom of %v from %v", l[i].Prefix, l)
			}
			trie, l = less, without(l, i)
			lookAt(t, trie, l)
		}
		if !slices.Equal(trie, []impl.TrieNode{{}}) {
			t.Errorf("with no entry left: %v", trie)
		}
	}
}

func TestRemoveFromOfWhatIsNotThere(t *testing.T) {
	for _, l := range goodTables() {
		trie := mustBuild(t, l)
		for _, p := range append(goodPrefixes(), badPrefixes()...) {
			if slices.ContainsFunc(l, func(e impl.Entry) bool { return e.Prefix == p }) {
				continue
			}
			if less, ok := impl.RemoveFrom(trie, p); len(less) != 0 || ok {
				t.Fatalf("RemoveFrom of %v from %v = %v, %v", p, l, less, ok)
			}
		}
	}
}

func badTables() map[string][]impl.Entry {
	chain := chainTable(lastAddr, 0, 30)
	spread := spreadTable(mostRoutes + 1)
	bad := map[string][]impl.Entry{
		"31 entries, a chain":    chain,
		"31 entries":             spread,
		"1000 entries":           make([]impl.Entry, 1000),
		"one twice":              {entryAt(10<<24, 8, 1), entryAt(10<<24, 8, 1)},
		"one prefix, two Values": {entryAt(10<<24, 8, 1), entryAt(10<<24, 8, 2)},
		"falling by Addr":        {entryAt(11<<24, 8, 1), entryAt(10<<24, 8, 2)},
		"falling by Len":         {entryAt(10<<24, 9, 1), entryAt(10<<24, 8, 2)},
		"falling at the end":     {entryAt(0, 0, 1), entryAt(10<<24, 8, 1), entryAt(10<<24, 16, 2), entryAt(10<<24, 9, 2)},
		"by Len ahead of Addr":   {entryAt(12<<24, 8, 1), entryAt(10<<24, 9, 2)},
		"a Value of -1":          {entryAt(10<<24, 8, -1)},
		"a Value of 1000001":     {entryAt(10<<24, 8, mostValue+1)},
		"a least Value":          {entryAt(10<<24, 8, math.MinInt)},
		"a greatest Value":       {entryAt(10<<24, 8, math.MaxInt)},
		"a bad Value behind":     {entryAt(0, 0, 1), entryAt(10<<24, 8, -5)},
		"a bad Value ahead":      {entryAt(0, 0, mostValue+1), entryAt(10<<24, 8, 5)},
	}
	return bad
}

func TestTablesThatAreNotGood(t *testing.T) {
	bad := badTables()
	look := func(name string, l []impl.Entry) {
		if impl.GoodTable(l) {
			t.Errorf("%s: GoodTable(%v)", name, l)
		}
		if trie, ok := impl.BuildTrie(l); len(trie) != 0 || ok {
			t.Errorf("%s: BuildTrie(%v) = %v, %v", name, l, trie, ok)
		}
		for _, addr := range []int{0, 10 << 24, lastAddr, -1} {
			if e, ok := impl.LongestIn(l, addr); e != (impl.Entry{}) || ok {
				t.Errorf("%s: LongestIn(%v, %d) = %v, %v", name, l, addr, e, ok)
			}
		}
	}
	for name, l := range bad {
		look(name, l)
	}
	for _, p := range badPrefixes() {
		e := impl.Entry{Prefix: p, Value: 1}
		look("alone", []impl.Entry{e})
		look("ahead", []impl.Entry{e, entryAt(lastAddr, 32, 1)})
		look("behind", []impl.Entry{entryAt(0, 0, 1), e})
		look("between", []impl.Entry{entryAt(0, 0, 1), e, entryAt(lastAddr, 32, 1)})
	}
}

func chainTrie(depth int) []impl.TrieNode {
	trie := []impl.TrieNode{{}}
	for i := range depth {
		trie[i].One = i + 1
		trie = append(trie, impl.TrieNode{})
	}
	trie[depth].Has = true
	return trie
}

// combTrie has an entry at the root and at each node of one way down, and one beside each of them.
func combTrie(entries int) []impl.TrieNode {
	trie, at := []impl.TrieNode{{Has: true}}, 0
	for many := 1; many < entries; many++ {
		if trie[at].Zero == 0 {
			trie[at].Zero = len(trie)
		} else {
			trie[at].One = len(trie)
			at = len(trie)
		}
		trie = append(trie, impl.TrieNode{Has: true, Value: many})
	}
	return trie
}

func goodTries() map[string][]impl.TrieNode {
	return map[string][]impl.TrieNode{
		"the root alone":               {{}},
		"the root with an entry":       {{Has: true, Value: mostValue}},
		"as deep as can be":            chainTrie(32),
		"30 entries":                   combTrie(mostRoutes),
		"the upper half ahead":         {{Zero: 2, One: 1}, {Has: true}, {Has: true, Value: 3}},
		"a deeper one ahead":           {{Zero: 1, One: 3}, {One: 2}, {Has: true}, {Has: true}},
		"a half of a leaf is 0":        {{Zero: 1}, {Zero: 2, Has: true}, {Has: true}},
		"other numbers than BuildTrie": {{Zero: 3, One: 1}, {One: 2}, {Has: true, Value: 1}, {Zero: 4}, {Has: true, Value: 2}},
	}
}

func badTries() map[string][]impl.TrieNode {
	deep := chainTrie(33)
	deepest := chainTrie(100)
	manyNodes := chainTrie(mostNodes)
	for i := range manyNodes {
		manyNodes[i].Has = true
	}
	short := chainTrie(32)
	short[32].Has = false
	second := chainTrie(32)
	second[30].Zero = 33
	second = append(second, impl.TrieNode{})
	return map[string][]impl.TrieNode{
		"no node":                         nil,
		"an empty list":                   {},
		"2001 nodes":                      manyNodes,
		"2001 roots":                      make([]impl.TrieNode, mostNodes+1),
		"31 entries":                      combTrie(mostRoutes + 1),
		"33 deep":                         deep,
		"100 deep":                        deepest,
		"a half of none":                  {{}, {Has: true}},
		"a half of none at the end":       {{One: 1}, {Has: true}, {Has: true}},
		"a half of none in the middle":    {{One: 2}, {Has: true}, {Has: true}},
		"a half of two":                   {{Zero: 1, One: 2}, {One: 3, Has: true}, {One: 3, Has: true}, {Has: true}},
		"a half of two, one above":        {{Zero: 1, One: 2}, {One: 2, Has: true}, {Has: true}},
		"both halves in one":              {{Zero: 1, One: 1}, {Has: true}},
		"both halves in one below":        {{Zero: 1}, {Zero: 2, One: 2}, {Has: true}},
		"ahead of its upper node":         {{One: 2}, {Has: true}, {Zero: 1, Has: true}},
		"a ring of two":                   {{}, {Zero: 2, Has: true}, {Zero: 1, Has: true}},
		"its own half":                    {{One: 1}, {Zero: 1, Has: true}},
		"its own half, and of none":       {{}, {Zero: 1, Has: true}},
		"beyond the nodes, by one":        {{One: 1}},
		"beyond the nodes, below":         {{Zero: 1}, {Zero: 2, Has: true}},
		"far beyond the nodes":            {{Zero: math.MaxInt}},
		"far beyond the nodes, upper":     {{One: 1 << 40}},
		"below 0":                         {{Zero: -1}},
		"below 0, upper":                  {{One: -1}},
		"below 0 behind":                  {{One: 1}, {Zero: -1, Has: true}},
		"far below 0":                     {{One: math.MinInt}},
		"a leaf without an entry":         {{Zero: 1}, {}},
		"a leaf without an entry, upper":  {{One: 1}, {}},
		"a leaf without an entry, deep":   short,
		"one leaf of two without entry":   {{Zero: 1, One: 2}, {Has: true}, {}},
		"a leaf without, beside a chain":  second,
		"a Value without Has":             {{Value: 1}},
		"a Value without Has within":      {{Zero: 1}, {Zero: 2, Value: 5}, {Has: true}},
		"a Value below 0 without Has":     {{Value: -1}},
		"a Value of -1":                   {{Has: true, Value: -1}},
		"a Value of 1000001":              {{Has: true, Value: mostValue + 1}},
		"a Value of 1000001 below":        {{One: 1}, {Has: true, Value: mostValue + 1}},
		"a Value of the least":            {{Has: true, Value: math.MinInt}},
		"a Value of the greatest":         {{Has: true, Value: math.MaxInt}},
		"31 entries, the root's the last": append([]impl.TrieNode{{Has: true, Zero: 1}}, shifted(combTrie(mostRoutes))...),
	}
}

// shifted moves all numbers of nodes by one, so that the trie can stand below another root.
func shifted(trie []impl.TrieNode) []impl.TrieNode {
	for i := range trie {
		if trie[i].Zero != 0 {
			trie[i].Zero++
		}
		if trie[i].One != 0 {
			trie[i].One++
		}
	}
	return trie
}

func TestTriesThatAreGood(t *testing.T) {
	for name, trie := range goodTries() {
		l, ok := impl.TrieEntries(trie)
		if !impl.GoodTrie(trie) || !ok || !impl.GoodTable(l) {
			t.Errorf("%s: %v: %v, %v", name, trie, l, ok)
		}
		lookAt(t, trie, l)
	}
}

func TestEntriesOfATrieWithOtherNumbers(t *testing.T) {
	l, ok := impl.TrieEntries(goodTries()["other numbers than BuildTrie"])
	want := []impl.Entry{entryAt(0, 2, 2), entryAt(3<<30, 2, 1)}
	if !slices.Equal(l, want) || !ok {
		t.Errorf("%v, %v, not %v", l, ok, want)
	}
}

func TestTriesThatAreNotGood(t *testing.T) {
	for name, trie := range badTries() {
		if impl.GoodTrie(trie) {
			t.Errorf("%s: GoodTrie", name)
		}
		if l, ok := impl.TrieEntries(trie); len(l) != 0 || ok {
			t.Errorf("%s: TrieEntries = %v, %v", name, l, ok)
		}
		for _, addr := range []int{0, 1 << 31, lastAddr, -1, lastAddr + 1} {
			if v, depth, ok := impl.LookUp(trie, addr); v != 0 || depth != 0 || ok {
				t.Errorf("%s: LookUp at %d = %d, %d, %v", name, addr, v, depth, ok)
			}
		}
		for _, p := range append(goodPrefixes(), badPrefixes()...) {
			if grown, ok := impl.InsertIn(trie, p, 1); len(grown) != 0 || ok {
				t.Errorf("%s: InsertIn of %v = %v, %v", name, p, grown, ok)
			}
			if less, ok := impl.RemoveFrom(trie, p); len(less) != 0 || ok {
				t.Errorf("%s: RemoveFrom of %v = %v, %v", name, p, less, ok)
			}
		}
	}
}

func TestInsertInOfWhatIsNotGood(t *testing.T) {
	for name, trie := range goodTries() {
		for _, p := range badPrefixes() {
			if grown, ok := impl.InsertIn(trie, p, 1); len(grown) != 0 || ok {
				t.Errorf("%s: InsertIn of %v = %v, %v", name, p, grown, ok)
			}
		}
		for _, value := range []int{-1, mostValue + 1, math.MinInt, math.MaxInt} {
			if grown, ok := impl.InsertIn(trie, impl.Prefix{}, value); len(grown) != 0 || ok {
				t.Errorf("%s: InsertIn of Value %d = %v, %v", name, value, grown, ok)
			}
		}
	}
}

func TestZeroAnswersAtAddressesThatAreNone(t *testing.T) {
	l := []impl.Entry{{Value: 5}}
	trie := mustBuild(t, l)
	for _, addr := range badAddrs() {
		if e, ok := impl.LongestIn(l, addr); e != (impl.Entry{}) || ok {
			t.Errorf("LongestIn at %d = %v, %v", addr, e, ok)
		}
		if v, depth, ok := impl.LookUp(trie, addr); v != 0 || depth != 0 || ok {
			t.Errorf("LookUp at %d = %d, %d, %v", addr, v, depth, ok)
		}
	}
}

// withBehind puts a list into memory that goes on behind its length.
func withBehind[E any](l []E, behind E) []E {
	long := append(slices.Clone(l), behind, behind, behind, behind)
	return long[:len(l)]
}

// overwrite writes into all memory of an answer, also behind its length.
func overwrite[E any](l []E, with E) {
	for i := range l[:cap(l)] {
		l[:cap(l)][i] = with
	}
}

func TestTablesAreNotWrittenIntoNorShared(t *testing.T) {
	behind := impl.Entry{Prefix: impl.Prefix{Addr: -7, Len: 99}, Value: -7}
	for _, l := range goodTables() {
		given := withBehind(l, behind)
		all := slices.Clone(given[:cap(given)])
		impl.GoodTable(given)
		impl.LongestIn(given, lastAddr)
		trie, ok := impl.BuildTrie(given)
		overwrite(trie, impl.TrieNode{Zero: -9, One: -9, Has: true, Value: -9})
		if !ok || !slices.Equal(given[:cap(given)], all) {
			t.Errorf("%v became %v", all, given[:cap(given)])
		}
	}
}

func TestTriesAreNotWrittenIntoNorShared(t *testing.T) {
	behind := impl.TrieNode{Zero: -7, One: -7, Has: true, Value: -7}
	other := impl.TrieNode{Zero: -9, One: -9, Has: true, Value: -9}
	for _, l := range goodTables() {
		given := withBehind(mustBuild(t, l), behind)
		all := slices.Clone(given[:cap(given)])
		impl.GoodTrie(given)
		impl.LookUp(given, lastAddr)
		entries, _ := impl.TrieEntries(given)
		overwrite(entries, impl.Entry{Value: -9})
		for _, p := range goodPrefixes() {
			grown, _ := impl.InsertIn(given, p, 4)
			if slices.Contains(grown[:cap(grown)], behind) {
				t.Errorf("InsertIn of %v hands out what lies behind", p)
			}
			overwrite(grown, other)
		}
		for _, e := range l {
			less, _ := impl.RemoveFrom(given, e.Prefix)
			overwrite(less, other)
		}
		if !slices.Equal(given[:cap(given)], all) {
			t.Errorf("%v became %v", all, given[:cap(given)])
		}
	}
}

func TestWhatLiesBehindATrieIsNotRead(t *testing.T) {
	whole := mustBuild(t, []impl.Entry{entryAt(0, 1, 1), entryAt(1<<31, 1, 2)})
	if cut := whole[:2]; impl.GoodTrie(cut) {
		t.Error("a node behind the length was taken for a half")
	}
	table := chainTable(lastAddr, 0, 30)[:mostRoutes]
	if !impl.GoodTable(table) {
		t.Error("an entry behind the length was counted")
	}
}

func TestWrongTriesAreNotWrittenInto(t *testing.T) {
	for name, trie := range badTries() {
		given := withBehind(trie, impl.TrieNode{Value: -7})
		all := slices.Clone(given[:cap(given)])
		impl.GoodTrie(given)
		impl.LookUp(given, 0)
		impl.TrieEntries(given)
		impl.InsertIn(given, impl.Prefix{Addr: lastAddr, Len: 32}, 1)
		impl.RemoveFrom(given, impl.Prefix{})
		if !slices.Equal(given[:cap(given)], all) {
			t.Errorf("%s: %v became %v", name, all, given[:cap(given)])
		}
	}
	for name, l := range badTables() {
		given := withBehind(l, impl.Entry{Value: -7})
		all := slices.Clone(given[:cap(given)])
		impl.GoodTable(given)
		impl.LongestIn(given, 0)
		impl.BuildTrie(given)
		if !slices.Equal(given[:cap(given)], all) {
			t.Errorf("%s: %v became %v", name, all, given[:cap(given)])
		}
	}
}
