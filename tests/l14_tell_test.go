package tests

import (
	"fmt"
	"go/ast"
	"go/parser"
	"go/token"
	"maps"
	"math/rand"
	"slices"
	"testing"

	"loop.example/g00344/impl"
)

const mostTold = 20
const mostHeard = 60

var allAccepted = impl.Policy{Accept: true}

func sameUpdates(a, b []impl.Update) bool {
	return slices.EqualFunc(a, b, sameUpdate)
}

// heardByWords keeps what was heard last of each prefix.
func heardByWords(l []impl.Route, updates []impl.Update) ([]impl.Route, bool) {
	last := map[impl.Prefix]impl.Attrs{}
	for _, r := range l {
		last[r.Prefix] = r.Attrs
	}
	for _, u := range updates {
		for _, p := range u.Gone {
			delete(last, p)
		}
		for _, p := range u.Come {
			last[p] = u.Attrs
		}
		if len(last) > mostTold {
			return nil, false
		}
	}
	var then []impl.Route
	for _, p := range slices.SortedFunc(maps.Keys(last), comparePrefixes) {
		then = append(then, impl.Route{Prefix: p, Attrs: last[p]})
	}
	return then, true
}

// groupsByWords goes by the texts of the Attrs.
func groupsByWords(l []impl.Route) [][]int {
	place := map[string]int{}
	var groups [][]int
	for i, r := range l {
		text := fmt.Sprint(r.Attrs)
		at, is := place[text]
		if !is {
			at = len(groups)
			place[text] = at
			groups = append(groups, nil)
		}
		groups[at] = append(groups[at], i)
	}
	return groups
}

// tellByWords counts the updates first, and fills them then.
func tellByWords(old, now []impl.Route) []impl.Update {
	has := func(l []impl.Route, r impl.Route, same func(a, b impl.Route) bool) bool {
		return slices.ContainsFunc(l, func(other impl.Route) bool { return same(other, r) })
	}
	samePrefix := func(a, b impl.Route) bool { return a.Prefix == b.Prefix }
	gone := slices.DeleteFunc(slices.Clone(old), func(r impl.Route) bool { return has(now, r, samePrefix) })
	come := slices.DeleteFunc(slices.Clone(now), func(r impl.Route) bool { return has(old, r, sameRoute) })
	updates := make([]impl.Update, (len(gone)+mostNlri-1)/mostNlri)
	for i, r := range gone {
		updates[i/mostNlri].Gone = append(updates[i/mostNlri].Gone, r.Prefix)
	}
	at := 0
	for _, group := range groupsByWords(come) {
		for i, number := range group {
			if i > 0 && i%mostNlri == 0 {
				at++
			}
			if at == len(updates) {
				updates = append(updates, impl.Update{})
			}
			updates[at].Attrs = come[number].Attrs
			updates[at].Come = append(updates[at].Come, come[number].Prefix)
		}
		at++
	}
	return updates
}

// exportByWords goes by the model of a rib, and filters route by route.
func exportByWords(r impl.Rib, peer int, p impl.Policy) []impl.Route {
	m := modelOf(r)
	var routes []impl.Route
	for _, prefix := range m.prefixes() {
		best, is := m.best(r.Own, prefix)
		if !is || best.Peer == peer || len(best.Attrs.Path) == mostPath {
			continue
		}
		best.Attrs.Path = append([]int{r.Own}, best.Attrs.Path...)
		then, verdict := applyByWords(p, impl.Route{Prefix: prefix, Attrs: best.Attrs})
		if verdict == impl.VerdictAccept {
			routes = append(routes, then)
		}
	}
	return routes
}

func lookAtTell(t *testing.T, old, now []impl.Route, want ...impl.Update) {
	t.Helper()
	if got, ok := impl.TellFrom(old, now); !sameUpdates(got, want) || !ok {
		t.Errorf("TellFrom(%v, %v) = %v, %v, not %v", old, now, got, ok, want)
	}
}

func refusesTell(t *testing.T, name string, old, now []impl.Route) {
	t.Helper()
	if got, ok := impl.TellFrom(old, now); len(got) != 0 || ok {
		t.Errorf("%s: TellFrom of %d and %d = %v, %v", name, len(old), len(now), got, ok)
	}
}

func lookAtHearAll(t *testing.T, l []impl.Route, updates []impl.Update, want ...impl.Route) {
	t.Helper()
	if got, ok := impl.HearAll(l, updates); !sameRoutes(got, want) || !ok {
		t.Errorf("HearAll(%v, %v) = %v, %v, not %v", l, updates, got, ok, want)
	}
}

func refusesHearAll(t *testing.T, name string, l []impl.Route, updates []impl.Update) {
	t.Helper()
	if got, ok := impl.HearAll(l, updates); len(got) != 0 || ok {
		t.Errorf("%s: HearAll of %d and %d = %v, %v", name, len(l), len(updates), got, ok)
	}
}

func lookAtSame(t *testing.T, a, b []impl.Route, want bool) {
	t.Helper()
	for _, pair := range [][2][]impl.Route{{a, b}, {b, a}} {
		if got, ok := impl.SameRoutes(pair[0], pair[1]); got != want || !ok {
			t.Errorf("SameRoutes(%v, %v) = %v, %v, not %v", pair[0], pair[1], got, ok, want)
		}
	}
}

func lookAtGroups(t *testing.T, l []impl.Route, want ...[]int) {
	t.Helper()
	if got, ok := impl.GroupsOf(l); !slices.EqualFunc(got, want, slices.Equal[[]int]) || !ok {
		t.Errorf("GroupsOf(%v) = %v, %v, not %v", l, got, ok, want)
	}
}

func lookAtExport(t *testing.T, r impl.Rib, peer int, p impl.Policy, want ...impl.Route) {
	t.Helper()
	got, ok := impl.ExportTo(r, peer, p)
	if !sameRoutes(got, want) || !ok {
		t.Errorf("ExportTo(%v, %d, %v) = %v, %v, not %v", r, peer, p, got, ok, want)
	}
	if !impl.GoodRoutes(got) {
		t.Errorf("ExportTo(%v, %d, %v) = %v, which are not good", r, peer, p, got)
	}
}

func refusesExport(t *testing.T, name string, r impl.Rib, peer int, p impl.Policy) {
	t.Helper()
	if got, ok := impl.ExportTo(r, peer, p); len(got) != 0 || ok {
		t.Errorf("%s: ExportTo of %d = %v, %v", name, peer, got, ok)
	}
}

func refusesTellPeer(t *testing.T, name string, old, now impl.Rib, peer int, p impl.Policy) {
	t.Helper()
	if got, ok := impl.TellPeer(old, now, peer, p); len(got) != 0 || ok {
		t.Errorf("%s: TellPeer of %d = %v, %v", name, peer, got, ok)
	}
}

// lookAtTold asks of what is told from one table to another one what the document promises, and holds it against the words.
func lookAtTold(t *testing.T, old, now []impl.Route) {
	t.Helper()
	lookAtTell(t, old, now, tellByWords(old, now)...)
	told, _ := impl.TellFrom(old, now)
	for _, u := range told {
		if !impl.GoodUpdate(u) || len(u.Gone)+len(u.Come) == 0 {
			t.Errorf("from %v to %v: told %v", old, now, u)
		}
	}
	same := sameRoutes(old, now)
	if same != (len(told) == 0) {
		t.Errorf("from %v to %v: told %v", old, now, told)
	}
	lookAtHearAll(t, old, told, now...)
	lookAtSame(t, old, now, same)
	lookAtTell(t, old, old)
	lookAtTell(t, now, now)
}

// routeAt has few values; n tells its Attrs.
func routeAt(p impl.Prefix, n int) impl.Route {
	return impl.Route{Prefix: p, Attrs: impl.Attrs{Path: []int{3}, Pref: n}}
}

// routesAt has a route for each of the numbers, all in their order, those with the same number with the same Attrs.
func routesAt(addr int, numbers ...int) []impl.Route {
	var l []impl.Route
	for i, p := range apart(addr, len(numbers)) {
		l = append(l, routeAt(p, numbers[i]))
	}
	return l
}

// likeRoutes are so many with the same Attrs.
func likeRoutes(addr, many, n int) []impl.Route {
	return routesAt(addr, slices.Repeat([]int{n}, many)...)
}

// unlikeRoutes are so many, each with Attrs of its own.
func unlikeRoutes(addr, many int) []impl.Route {
	return routesAt(addr, countTo(many)...)
}

// copiedRoutes are the same in memory of their own.
func copiedRoutes(l []impl.Route) []impl.Route {
	own := slices.Clone(l)
	for i, r := range own {
		own[i].Attrs.Path, own[i].Attrs.Comms = slices.Clone(r.Attrs.Path), slices.Clone(r.Attrs.Comms)
	}
	return own
}

func prefixesIn(l []impl.Route) []impl.Prefix {
	var prefixes []impl.Prefix
	for _, r := range l {
		prefixes = append(prefixes, r.Prefix)
	}
	return prefixes
}

// comesLike is an update in which prefixes come as routeAt has them.
func comesLike(n int, l ...impl.Prefix) impl.Update {
	return impl.Update{Attrs: routeAt(impl.Prefix{}, n).Attrs, Come: l}
}

// someAttrs has a few Attrs that differ in one field each.
func someAttrs() []impl.Attrs {
	l := []impl.Attrs{plainAttrs()}
	for _, change := range attrsChanges() {
		a := plainAttrs()
		change(&a)
		l = append(l, a)
	}
	return l
}

// attrsChanges change each field, in each way that such a field can be another one.
func attrsChanges() map[string]func(a *impl.Attrs) {
	return map[string]func(a *impl.Attrs){
		"Origin":         func(a *impl.Attrs) { a.Origin = 2 },
		"Next":           func(a *impl.Attrs) { a.Next++ },
		"Med":            func(a *impl.Attrs) { a.Med-- },
		"Pref":           func(a *impl.Attrs) { a.Pref++ },
		"Path, longer":   func(a *impl.Attrs) { a.Path = []int{300, 7, 7} },
		"Path, shorter":  func(a *impl.Attrs) { a.Path = []int{300} },
		"Path, none":     func(a *impl.Attrs) { a.Path = nil },
		"Path, as long":  func(a *impl.Attrs) { a.Path = []int{300, 8} },
		"Path, turned":   func(a *impl.Attrs) { a.Path = []int{7, 300} },
		"Comms, as many": func(a *impl.Attrs) { a.Comms = []int{9, 70001} },
		"Comms, fewer":   func(a *impl.Attrs) { a.Comms = []int{9} },
		"Comms, more":    func(a *impl.Attrs) { a.Comms = []int{8, 9, 70000} },
		"Comms, none":    func(a *impl.Attrs) { a.Comms = nil },
	}
}

// smallRouteTables has all tables of these prefixes, which rise, and these Attrs.
func smallRouteTables(prefixes []impl.Prefix, attrs []impl.Attrs) [][]impl.Route {
	tables := [][]impl.Route{nil}
	for _, p := range prefixes {
		for _, l := range slices.Clone(tables) {
			for _, a := range attrs {
				tables = append(tables, append(slices.Clone(l), impl.Route{Prefix: p, Attrs: a}))
			}
		}
	}
	return tables
}

// mixedRouteTable has routes of some of these prefixes, which rise, and of these Attrs; of old it keeps some as they are.
func mixedRouteTable(pool []impl.Prefix, attrs []impl.Attrs, old []impl.Route, r *rand.Rand) []impl.Route {
	dense, keeps := 1+r.Intn(10), r.Intn(11)
	was := map[impl.Prefix]impl.Attrs{}
	for _, route := range old {
		was[route.Prefix] = route.Attrs
	}
	var l []impl.Route
	for _, p := range pool {
		a, is := was[p]
		if is && r.Intn(10) < keeps {
			l = append(l, impl.Route{Prefix: p, Attrs: a})
		} else if r.Intn(10) < dense {
			l = append(l, impl.Route{Prefix: p, Attrs: attrs[r.Intn(len(attrs))]})
		}
	}
	for len(l) > mostTold {
		at := r.Intn(len(l))
		l = slices.Delete(l, at, at+1)
	}
	return l
}

// mixedPalette has so few Attrs that many routes have the same ones.
func mixedPalette(r *rand.Rand) []impl.Attrs {
	var l []impl.Attrs
	for range []int{1, 2, 3, 5, 20}[r.Intn(5)] {
		l = append(l, fewAttrs(r))
	}
	return l
}

func goodRouteTables() [][]impl.Route {
	full := fullRoute()
	l := [][]impl.Route{
		nil,
		{},
		{{}},
		{full},
		{{}, full},
		{{Attrs: impl.Attrs{Path: []int{}, Comms: []int{}}}},
		likeRoutes(0, mostTold, 5),
		likeRoutes(lastAddr-60, mostTold-1, 5),
		unlikeRoutes(0, mostTold),
		routesAt(10<<24, 1, 2, 1, 2, 3, 1),
	}
	for _, r := range goodRoutes() {
		l = append(l, []impl.Route{r})
	}
	greatest := likeRoutes(0, mostTold, 0)
	for i := range greatest {
		greatest[i].Attrs = fullAttrs()
	}
	l = append(l, greatest)
	r := rand.New(rand.NewSource(140))
	for range 60 {
		l = append(l, mixedRouteTable(mixedPool(r), mixedPalette(r), nil, r))
	}
	return l
}

// badRouteTables are not good, most of them by one fault alone.
func badRouteTables() map[string][]impl.Route {
	ten, eleven, nine := routeAt(prefixAt(10<<24, 8), 1), routeAt(prefixAt(11<<24, 8), 1), routeAt(prefixAt(10<<24, 9), 1)
	other := routeAt(prefixAt(10<<24, 8), 2)
	all := map[string][]impl.Route{
		"one more than may be":       likeRoutes(0, mostTold+1, 5),
		"one more, all unlike":       unlikeRoutes(0, mostTold+1),
		"far too many":               likeRoutes(0, 5000, 5),
		"far too many zero ones":     make([]impl.Route, 100000),
		"falling by Addr":            {eleven, ten},
		"falling by Len":             {nine, ten},
		"two alike":                  {ten, ten},
		"two of one prefix":          {ten, other},
		"two of the zero prefix":     {{}, {}},
		"two of one at the end":      {{}, ten, other},
		"two of one apart":           {ten, nine, other},
		"the last one falls":         {ten, eleven, nine},
		"the first one is too great": {eleven, ten, nine},
		"all falling":                {eleven, nine, ten},
	}
	for i, r := range badRoutes() {
		all[fmt.Sprintf("route %d alone: %v", i, r)] = []impl.Route{r}
		first, last := routeAt(impl.Prefix{}, 1), routeAt(prefixAt(lastAddr, 32), 1)
		all[fmt.Sprintf("route %d first: %v", i, r)] = []impl.Route{r, last}
		all[fmt.Sprintf("route %d last: %v", i, r)] = []impl.Route{first, r}
	}
	for i, a := range badAttrs() {
		l := likeRoutes(0, 3, 5)
		l[i%3].Attrs = a
		all[fmt.Sprintf("attrs %d among others: %v", i, a)] = l
	}
	return all
}

func TestTheLimitOfToldRoutesIsAsSaid(t *testing.T) {
	if impl.MaxTold != mostTold {
		t.Error(impl.MaxTold)
	}
}

func TestTablesOfRoutesAreGoodByTheirWords(t *testing.T) {
	for _, l := range goodRouteTables() {
		if !impl.GoodRoutes(l) {
			t.Errorf("%v are not good", l)
		}
	}
	for many := range mostTold + 3 {
		if got := impl.GoodRoutes(likeRoutes(0, many, 1)); got != (many <= mostTold) {
			t.Errorf("%d routes: %v", many, got)
		}
	}
	for name, l := range badRouteTables() {
		if impl.GoodRoutes(l) {
			t.Errorf("%s: are good", name)
		}
	}
}

func TestGoodRoutesOfAllSmallOrders(t *testing.T) {
	pool := []impl.Prefix{{}, tenNet(8), tenNet(9), prefixAt(11<<24, 8), prefixAt(lastAddr, 32)}
	eachRow(pool, 4, func(l []impl.Prefix) {
		var routes []impl.Route
		want := true
		for i, p := range l {
			routes = append(routes, routeAt(p, i))
			want = want && (i == 0 || comparePrefixes(l[i-1], p) < 0)
		}
		if got := impl.GoodRoutes(routes); got != want {
			t.Errorf("routes of %v: %v", l, got)
		}
	})
}

// TestWhoHearsComesToTheNewTable goes through all pairs of small tables.
func TestWhoHearsComesToTheNewTable(t *testing.T) {
	prefixes := []impl.Prefix{{}, tenNet(8), tenNet(16)}
	tables := smallRouteTables(prefixes, fourAttrs()[:3])
	tables = append(tables, []impl.Route{})
	for _, old := range tables {
		for _, now := range tables {
			lookAtTold(t, old, now)
		}
	}
}

func TestWhoHearsComesToTheNewTableByEachField(t *testing.T) {
	tables := smallRouteTables([]impl.Prefix{tenNet(8), tenNet(9)}, someAttrs())
	for i, old := range tables {
		for j, now := range tables {
			if (i+j)%3 == 0 || i < 15 || j < 15 {
				lookAtTold(t, old, now)
			}
		}
	}
}

func TestWhoHearsComesToTheNewTableOfManyPairs(t *testing.T) {
	r := rand.New(rand.NewSource(141))
	counts := map[string]int{}
	for range 6000 {
		pool, attrs := mixedPool(r), mixedPalette(r)
		old := mixedRouteTable(pool, attrs, nil, r)
		now := mixedRouteTable(pool, attrs, old, r)
		lookAtTold(t, old, now)
		told, _ := impl.TellFrom(old, now)
		counts[fmt.Sprint(min(len(told), 6), " updates")]++
		for i, u := range told {
			if len(u.Gone) > 0 && i > 0 {
				counts["more go than one has room for"]++
			}
			if len(u.Come) == 0 {
				counts["nothing comes"]++
			}
			if i > 0 && len(u.Come) > 0 && sameAttrs(u.Attrs, told[i-1].Attrs) && len(told[i-1].Come) > 0 {
				counts["a group of many"]++
			}
		}
		if len(old) == mostTold && len(now) == mostTold {
			counts["both are full"]++
		}
	}
	for i := range 7 {
		if kind := fmt.Sprint(i, " updates"); counts[kind] < 100 {
			t.Error("not met:", kind, counts)
		}
	}
	for _, kind := range []string{"more go than one has room for", "nothing comes", "a group of many", "both are full"} {
		if counts[kind] < 50 {
			t.Error("not met:", kind, counts)
		}
	}
}

// TestFullTablesWithNothingInCommon: there is room in between, since what goes goes first.
func TestFullTablesWithNothingInCommon(t *testing.T) {
	for _, news := range [][]impl.Route{likeRoutes(1<<20, mostTold, 5), unlikeRoutes(1<<20, mostTold), routesAt(1<<20, 1, 2, 3, 1, 2, 3, 1, 2, 3, 1, 2, 3, 1, 2, 3, 1, 2, 3, 1, 2)} {
		for _, olds := range [][]impl.Route{likeRoutes(0, mostTold, 5), unlikeRoutes(1<<21, mostTold)} {
			for many := range mostTold + 1 {
				now := slices.Concat(olds[:many], news[many:])
				slices.SortFunc(now, func(a, b impl.Route) int { return comparePrefixes(a.Prefix, b.Prefix) })
				lookAtTold(t, olds, now)
				lookAtTold(t, now, olds)
			}
		}
	}
}

func TestTellFromOneRoute(t *testing.T) {
	a, b := routeAt(tenNet(8), 1), routeAt(tenNet(9), 2)
	other := routeAt(tenNet(8), 2)
	lookAtTell(t, nil, nil)
	lookAtTell(t, []impl.Route{}, nil)
	lookAtTell(t, []impl.Route{a}, []impl.Route{a})
	lookAtTell(t, []impl.Route{a, b}, []impl.Route{a, b})
	lookAtTell(t, nil, []impl.Route{a}, comesLike(1, a.Prefix))
	lookAtTell(t, []impl.Route{a}, nil, goes(a.Prefix))
	lookAtTell(t, []impl.Route{a}, []impl.Route{a, b}, comesLike(2, b.Prefix)) // a is as it was
	lookAtTell(t, []impl.Route{a, b}, []impl.Route{b}, goes(a.Prefix))
	lookAtTell(t, []impl.Route{a}, []impl.Route{other}, comesLike(2, a.Prefix)) // its Attrs alone are others: it does not go
	lookAtTell(t, []impl.Route{a}, []impl.Route{b}, impl.Update{Gone: []impl.Prefix{a.Prefix}, Attrs: b.Attrs, Come: []impl.Prefix{b.Prefix}})
	lookAtTell(t, []impl.Route{a, b}, []impl.Route{other, b}, comesLike(2, a.Prefix)) // b has these Attrs already, and is not told
	lookAtTell(t, []impl.Route{{}}, nil, impl.Update{Gone: []impl.Prefix{{}}})
	lookAtTell(t, nil, []impl.Route{{}}, impl.Update{Come: []impl.Prefix{{}}})
	lookAtTell(t, []impl.Route{{Prefix: tenNet(8), Attrs: plainAttrs()}}, []impl.Route{{Prefix: tenNet(8)}}, impl.Update{Come: []impl.Prefix{tenNet(8)}})
	bare := impl.Route{Prefix: tenNet(8), Attrs: impl.Attrs{Path: []int{}, Comms: []int{}}}
	lookAtTell(t, []impl.Route{bare}, []impl.Route{{Prefix: tenNet(8)}}) // the empty list and none are the same
	lookAtTell(t, []impl.Route{{Prefix: tenNet(8)}}, []impl.Route{bare})
}

func TestTellFromWhereTheAttrsAloneAreOthers(t *testing.T) {
	p, behind := tenNet(8), routeAt(tenNet(9), 3)
	was := impl.Route{Prefix: p, Attrs: plainAttrs()}
	for name, change := range attrsChanges() {
		is := impl.Route{Prefix: p, Attrs: plainAttrs()}
		change(&is.Attrs)
		t.Run(name, func(t *testing.T) {
			lookAtTell(t, []impl.Route{was}, []impl.Route{is}, impl.Update{Attrs: is.Attrs, Come: []impl.Prefix{p}})
			lookAtTell(t, []impl.Route{is, behind}, []impl.Route{was, behind}, impl.Update{Attrs: was.Attrs, Come: []impl.Prefix{p}})
		})
	}
}

func TestGroupsOfAsManyAsAnUpdateHasRoomFor(t *testing.T) {
	for many := range mostTold + 1 {
		l := likeRoutes(0, many, 5)
		p := prefixesIn(l)
		switch {
		case many == 0:
			lookAtTell(t, nil, l)
		case many <= mostNlri:
			lookAtTell(t, nil, l, comesLike(5, p...))
		default:
			lookAtTell(t, nil, l, comesLike(5, p[:mostNlri]...), comesLike(5, p[mostNlri:]...))
		}
		lookAtTold(t, nil, l)
	}
	refusesTell(t, "twice as many and one more", nil, likeRoutes(0, 2*mostNlri+1, 5))
	refusesTell(t, "twice as many and one more", likeRoutes(0, 3, 5), likeRoutes(0, 2*mostNlri+1, 5))
}

// TestASecondGroupBeginsAnUpdateOfItsOwn, also where the one ahead has room left.
func TestASecondGroupBeginsAnUpdateOfItsOwn(t *testing.T) {
	for first := 1; first < mostTold; first++ {
		l := slices.Concat(likeRoutes(0, first, 5), likeRoutes(1<<20, mostTold-first, 6))
		p := prefixesIn(l)
		var want []impl.Update
		for piece := range slices.Chunk(p[:first], mostNlri) {
			want = append(want, comesLike(5, piece...))
		}
		for piece := range slices.Chunk(p[first:], mostNlri) {
			want = append(want, comesLike(6, piece...))
		}
		lookAtTell(t, nil, l, want...)
		lookAtTold(t, likeRoutes(0, mostTold, 7), l)
	}
}

func TestGroupsAmongOneAnother(t *testing.T) {
	l := routesAt(0, 1, 2, 1, 3, 2, 1)
	p := prefixesIn(l)
	lookAtGroups(t, l, []int{0, 2, 5}, []int{1, 4}, []int{3})
	lookAtTell(t, nil, l, comesLike(1, p[0], p[2], p[5]), comesLike(2, p[1], p[4]), comesLike(3, p[3]))
	old := routesAt(0, 1, 9, 9, 9, 9, 9) // the first one is as it was: the groups are those of what comes alone
	lookAtTell(t, old, l, comesLike(2, p[1], p[4]), comesLike(1, p[2], p[5]), comesLike(3, p[3]))
	back := routesAt(0, 3, 2, 1)
	lookAtTell(t, nil, back, comesLike(3, p[0]), comesLike(2, p[1]), comesLike(1, p[2])) // by their first ones, not by what they have
	var want []impl.Update
	turns := routesAt(0, 8, 7, 8, 7, 8, 7, 8, 7, 8, 7, 8, 7, 8, 7, 8, 7, 8, 7, 8, 8)
	all := prefixesIn(turns)
	eights, sevens := []impl.Prefix{}, []impl.Prefix{}
	for i, r := range turns {
		if r.Attrs.Pref == 8 {
			eights = append(eights, all[i])
		} else {
			sevens = append(sevens, all[i])
		}
	}
	want = append(want, comesLike(8, eights[:mostNlri]...), comesLike(8, eights[mostNlri:]...), comesLike(7, sevens...))
	lookAtTell(t, nil, turns, want...)
	want[0].Gone = []impl.Prefix{prefixAt(lastAddr, 32)}
	lookAtTell(t, []impl.Route{routeAt(prefixAt(lastAddr, 32), 8)}, turns, want...)
}

// TestTheFirstUpdatesHaveWhatGoes has each number of prefixes that go, with none, one and many updates for what comes.
func TestTheFirstUpdatesHaveWhatGoes(t *testing.T) {
	comings := map[string]struct {
		now  []impl.Route
		told []impl.Update
	}{
		"none": {},
		"one":  {routesAt(0, 5, 5), []impl.Update{comesLike(5, apart(0, 2)...)}},
		"a group of many": {likeRoutes(0, 11, 5),
			[]impl.Update{comesLike(5, apart(0, 10)...), comesLike(5, apart(20, 1)...)}},
		"two": {routesAt(0, 5, 6, 5), []impl.Update{
			comesLike(5, prefixAt(0, 32), prefixAt(4, 32)), comesLike(6, prefixAt(2, 32))}},
		"three": {routesAt(0, 7, 6, 5), []impl.Update{
			comesLike(7, prefixAt(0, 32)), comesLike(6, prefixAt(2, 32)), comesLike(5, prefixAt(4, 32))}},
	}
	var all []impl.Update
	for i := range mostTold {
		all = append(all, comesLike(i, prefixAt(2*i, 32)))
	}
	comings["as many as may be"] = struct {
		now  []impl.Route
		told []impl.Update
	}{unlikeRoutes(0, mostTold), all}
	for name, c := range comings {
		for many := range mostTold + 1 {
			old := unlikeRoutes(1<<20, many)
			gone := prefixesIn(old)
			want := slices.Clone(c.told)
			for at := 0; at*mostNlri < many; at++ {
				if at == len(want) {
					want = append(want, impl.Update{})
				}
				want[at].Gone = gone[at*mostNlri : min(many, (at+1)*mostNlri)]
			}
			t.Run(fmt.Sprint(name, ", ", many), func(t *testing.T) {
				lookAtTell(t, old, c.now, want...)
				lookAtTold(t, old, c.now)
			})
		}
		refusesTell(t, name, unlikeRoutes(1<<20, 2*mostNlri+1), c.now)
	}
	gone := apart(0, mostTold)
	lookAtTell(t, likeRoutes(0, mostNlri, 5), nil, goes(gone[:10]...))
	lookAtTell(t, likeRoutes(0, mostNlri+1, 5), nil, goes(gone[:10]...), goes(gone[10]))
	lookAtTell(t, likeRoutes(0, 2*mostNlri, 5), nil, goes(gone[:10]...), goes(gone[10:]...))
}

// TestWhatGoesStandsAmongWhatStays: what stays is in no update.
func TestWhatGoesStandsAmongWhatStays(t *testing.T) {
	old := unlikeRoutes(0, mostTold)
	for first := range mostTold {
		for step := 1; step < 5; step++ {
			var now []impl.Route
			var gone []impl.Prefix
			for i, r := range old {
				if i >= first && (i-first)%step == 0 {
					gone = append(gone, r.Prefix)
				} else {
					now = append(now, r)
				}
			}
			var want []impl.Update
			for piece := range slices.Chunk(gone, mostNlri) {
				want = append(want, goes(piece...))
			}
			lookAtTell(t, old, now, want...)
			lookAtTold(t, now, old)
		}
	}
}

func TestTablesThatAreNotGoodAreRefused(t *testing.T) {
	good := [][]impl.Route{nil, {routeAt(tenNet(8), 1)}, likeRoutes(0, mostTold, 5)}
	for name, bad := range badRouteTables() {
		for _, l := range append(good, bad) {
			refusesTell(t, name+", old", bad, l)
			refusesTell(t, name+", now", l, bad)
			for _, pair := range [][2][]impl.Route{{l, bad}, {bad, l}} {
				if same, ok := impl.SameRoutes(pair[0], pair[1]); same || ok {
					t.Errorf("%s: SameRoutes = %v, %v", name, same, ok)
				}
			}
		}
		for _, updates := range [][]impl.Update{nil, {{}}, {goes(tenNet(8))}, {goes(apart(0, mostNlri)...)}, {comesLike(1, tenNet(8))}} {
			refusesHearAll(t, name, bad, updates)
		}
		if got, ok := impl.GroupsOf(bad); len(got) != 0 || ok {
			t.Errorf("%s: GroupsOf = %v, %v", name, got, ok)
		}
	}
}

// TestHearAllMendsNoTable: an update by which a table would be good comes too late.
func TestHearAllMendsNoTable(t *testing.T) {
	refusesHearAll(t, "one more than may be", likeRoutes(0, mostTold+1, 5), []impl.Update{goes(apart(0, 1)...)})
	refusesHearAll(t, "a route that goes", []impl.Route{{Prefix: tenNet(8), Attrs: badAttrs()[0]}}, []impl.Update{goes(tenNet(8))})
	refusesHearAll(t, "a route that comes again", []impl.Route{{Prefix: tenNet(8), Attrs: badAttrs()[0]}}, []impl.Update{comesLike(1, tenNet(8))})
	refusesHearAll(t, "two of one", []impl.Route{routeAt(tenNet(8), 1), routeAt(tenNet(8), 2)}, []impl.Update{goes(tenNet(8))})
}

func TestHearAllOfFewUpdates(t *testing.T) {
	a, b, c := routeAt(tenNet(8), 1), routeAt(tenNet(16), 2), routeAt(prefixAt(11<<24, 8), 1)
	l := []impl.Route{a, b}
	lookAtHearAll(t, nil, nil)
	lookAtHearAll(t, nil, []impl.Update{})
	lookAtHearAll(t, []impl.Route{}, []impl.Update{{}, {}})
	lookAtHearAll(t, l, nil, a, b)
	lookAtHearAll(t, l, []impl.Update{{}}, a, b)
	lookAtHearAll(t, l, []impl.Update{goes(a.Prefix)}, b)
	lookAtHearAll(t, l, []impl.Update{goes(b.Prefix)}, a)
	lookAtHearAll(t, l, []impl.Update{goes(a.Prefix, b.Prefix)})
	lookAtHearAll(t, l, []impl.Update{goes(c.Prefix)}, a, b)  // is not there
	lookAtHearAll(t, l, []impl.Update{goes(tenNet(9))}, a, b) // has one, and is one's, and is not there
	lookAtHearAll(t, nil, []impl.Update{goes(tenNet(9))})     // nothing is there
	lookAtHearAll(t, l, []impl.Update{goes(impl.Prefix{})}, l...)
	lookAtHearAll(t, l, []impl.Update{comesLike(9, a.Prefix)}, routeAt(a.Prefix, 9), b) // is there already
	lookAtHearAll(t, l, []impl.Update{comesLike(1, a.Prefix)}, a, b)                    // just as it comes
	lookAtHearAll(t, l, []impl.Update{{Come: []impl.Prefix{b.Prefix}}}, a, impl.Route{Prefix: b.Prefix})
	lookAtHearAll(t, l, []impl.Update{{Gone: []impl.Prefix{a.Prefix}, Attrs: c.Attrs, Come: []impl.Prefix{c.Prefix}}}, b, c)
	lookAtHearAll(t, l, []impl.Update{comesLike(7, a.Prefix), comesLike(8, a.Prefix)}, routeAt(a.Prefix, 8), b) // the last one counts
	lookAtHearAll(t, l, []impl.Update{goes(a.Prefix), comesLike(8, a.Prefix)}, routeAt(a.Prefix, 8), b)
	lookAtHearAll(t, l, []impl.Update{comesLike(8, a.Prefix), goes(a.Prefix)}, b)
	lookAtHearAll(t, l, []impl.Update{comesLike(8, c.Prefix), goes(c.Prefix)}, a, b)
}

func TestWhatComesStandsInItsPlace(t *testing.T) {
	a, b := routeAt(tenNet(8), 1), routeAt(prefixAt(12<<24, 8), 2)
	ahead, between, behind := prefixAt(9<<24, 8), prefixAt(11<<24, 8), prefixAt(13<<24, 8)
	l := []impl.Route{a, b}
	lookAtHearAll(t, l, []impl.Update{comesLike(5, ahead)}, routeAt(ahead, 5), a, b)
	lookAtHearAll(t, l, []impl.Update{comesLike(5, between)}, a, routeAt(between, 5), b)
	lookAtHearAll(t, l, []impl.Update{comesLike(5, behind)}, a, b, routeAt(behind, 5))
	lookAtHearAll(t, l, []impl.Update{comesLike(5, ahead, a.Prefix, between, behind)},
		routeAt(ahead, 5), routeAt(a.Prefix, 5), routeAt(between, 5), b, routeAt(behind, 5))
	lookAtHearAll(t, l, []impl.Update{comesLike(5, tenNet(7), tenNet(9))}, routeAt(tenNet(7), 5), a, routeAt(tenNet(9), 5), b)
	lookAtHearAll(t, nil, []impl.Update{comesLike(5, behind), comesLike(6, ahead), comesLike(7, between)},
		routeAt(ahead, 6), routeAt(between, 7), routeAt(behind, 5))
}

func TestHearAllOf60UpdatesAndOneMore(t *testing.T) {
	p := tenNet(8)
	updates := slices.Repeat([]impl.Update{comesLike(1, p), {}, goes(p), comesLike(2, p)}, 15)
	for many := range mostHeard + 1 {
		want, _ := heardByWords(nil, updates[:many])
		lookAtHearAll(t, nil, updates[:many], want...)
	}
	for _, u := range []impl.Update{{}, comesLike(2, p), goes(p)} {
		refusesHearAll(t, "61", nil, append(slices.Clone(updates), u))
		refusesHearAll(t, "61", likeRoutes(0, 3, 5), append(slices.Clone(updates), u))
	}
	lookAtHearAll(t, nil, make([]impl.Update, mostHeard))
	refusesHearAll(t, "61 that do nothing", nil, make([]impl.Update, mostHeard+1))
	refusesHearAll(t, "far too many", nil, make([]impl.Update, 100000))
}

func TestHearAllWithAnUpdateThatIsNotGood(t *testing.T) {
	good := []impl.Update{comesLike(1, tenNet(8)), goes(tenNet(8)), {}}
	for i, bad := range badUpdates() {
		refusesHearAll(t, "alone", nil, []impl.Update{bad})
		refusesHearAll(t, "of a table", likeRoutes(0, 3, 5), []impl.Update{bad})
		at := i % (len(good) + 1)
		refusesHearAll(t, fmt.Sprint("at ", at), nil, slices.Insert(slices.Clone(good), at, bad))
	}
	for at := range mostHeard {
		updates := make([]impl.Update, mostHeard)
		updates[at].Attrs.Pref = 1 // nothing comes with them
		refusesHearAll(t, fmt.Sprint("at ", at), nil, updates)
	}
}

func TestEachGoodUpdateIsHeard(t *testing.T) {
	for _, u := range goodUpdates() {
		want, _ := heardByWords(nil, []impl.Update{u})
		lookAtHearAll(t, nil, []impl.Update{u}, want...)
		lookAtHearAll(t, want, []impl.Update{u}, want...)
		lookAtHearAll(t, want, []impl.Update{goes(u.Come...)})
	}
}

func TestATableThatIsFullInBetween(t *testing.T) {
	full := likeRoutes(0, mostTold, 5)
	near, far := apart(0, mostTold), apart(1<<20, mostNlri)
	one := comesLike(6, far[0])
	want := append(slices.Clone(full), routeAt(far[0], 6))
	lookAtHearAll(t, full[1:], []impl.Update{one}, want[1:]...)
	refusesHearAll(t, "one more", full, []impl.Update{one})
	refusesHearAll(t, "one more, which goes again", full, []impl.Update{one, goes(far[0])})
	refusesHearAll(t, "one more, and one goes then", full, []impl.Update{one, goes(near[0])})
	lookAtHearAll(t, full, []impl.Update{goes(near[0]), one}, want[1:]...)
	lookAtHearAll(t, full, []impl.Update{{Gone: near[:1], Attrs: one.Attrs, Come: one.Come}}, want[1:]...) // in one update there is room
	lookAtHearAll(t, full, []impl.Update{{}, comesLike(5, near[:10]...), goes(far...)}, full...)
	lookAtHearAll(t, full, []impl.Update{goes(near[:1]...), one, goes(far[0]), comesLike(5, near[0])}, full...)
	for many := range mostNlri + 1 {
		for come := 1; come <= mostNlri; come++ {
			u := impl.Update{Gone: near[:many], Attrs: one.Attrs, Come: far[:come]}
			if come > many {
				refusesHearAll(t, "more come than go", full, []impl.Update{u})
			}
			if l, ok := heardByWords(full, []impl.Update{u}); ok {
				lookAtHearAll(t, full, []impl.Update{u}, l...)
			}
		}
	}
}

func TestHearAllInManyPlays(t *testing.T) {
	r := rand.New(rand.NewSource(142))
	heard, refusals := 0, 0
	for range 3000 {
		pool := mixedPool(r)
		l := mixedRouteTable(pool, mixedPalette(r), nil, r)
		var updates []impl.Update
		for range r.Intn(40) {
			updates = append(updates, updateAmong(pool, r))
		}
		if want, ok := heardByWords(l, updates); ok {
			lookAtHearAll(t, l, updates, want...)
			heard++
		} else {
			refusesHearAll(t, "too many", l, updates)
			refusals++
		}
	}
	if heard < 1000 || refusals < 100 {
		t.Error(heard, refusals)
	}
}

// TestHearAllIsOneUpdateAfterTheOther cuts a row of updates at each place.
func TestHearAllIsOneUpdateAfterTheOther(t *testing.T) {
	r := rand.New(rand.NewSource(143))
	pool := manyPrefixes()[:mostTold] // so that nothing is refused
	for range 60 {
		l := mixedRouteTable(pool, mixedPalette(r), nil, r)
		var updates []impl.Update
		for range mostHeard {
			updates = append(updates, updateAmong(pool, r))
		}
		all, ok := impl.HearAll(l, updates)
		if !ok {
			t.Fatal(l, updates)
		}
		for cut := range mostHeard + 1 {
			between, ok := impl.HearAll(l, updates[:cut])
			if !ok {
				t.Fatal(l, updates[:cut])
			}
			lookAtHearAll(t, between, updates[cut:], all...)
		}
	}
}

func TestSameRoutes(t *testing.T) {
	a, b := impl.Route{Prefix: tenNet(8), Attrs: plainAttrs()}, impl.Route{Prefix: tenNet(9), Attrs: plainAttrs()}
	lookAtSame(t, nil, nil, true)
	lookAtSame(t, nil, []impl.Route{}, true)
	lookAtSame(t, nil, []impl.Route{{}}, false)
	lookAtSame(t, nil, []impl.Route{a}, false)
	lookAtSame(t, []impl.Route{a}, []impl.Route{a}, true)
	lookAtSame(t, []impl.Route{a}, []impl.Route{a, b}, false) // one longer
	lookAtSame(t, []impl.Route{b}, []impl.Route{a, b}, false)
	lookAtSame(t, []impl.Route{a}, []impl.Route{b}, false) // another prefix
	lookAtSame(t, []impl.Route{a}, []impl.Route{{Prefix: prefixAt(11<<24, 8), Attrs: plainAttrs()}}, false)
	lookAtSame(t, []impl.Route{{Prefix: tenNet(8)}}, []impl.Route{{Prefix: tenNet(8), Attrs: impl.Attrs{Path: []int{}, Comms: []int{}}}}, true)
	for name, change := range attrsChanges() {
		other := impl.Route{Prefix: tenNet(8), Attrs: plainAttrs()}
		change(&other.Attrs)
		t.Run(name, func(t *testing.T) {
			last := b
			last.Attrs = other.Attrs
			lookAtSame(t, []impl.Route{a}, []impl.Route{other}, false)
			lookAtSame(t, []impl.Route{a, b}, []impl.Route{other, b}, false)
			lookAtSame(t, []impl.Route{a, b}, []impl.Route{a, last}, false)
			lookAtSame(t, []impl.Route{other}, copiedRoutes([]impl.Route{other}), true)
		})
	}
	for _, l := range goodRouteTables() {
		lookAtSame(t, l, copiedRoutes(l), true)
		for i := range l {
			lookAtSame(t, l, slices.Delete(slices.Clone(l), i, i+1), false)
		}
	}
}

func TestGroupsOf(t *testing.T) {
	lookAtGroups(t, nil)
	lookAtGroups(t, []impl.Route{})
	lookAtGroups(t, []impl.Route{{}}, []int{0})
	for many := 1; many <= mostTold; many++ {
		var each [][]int
		for i := range many {
			each = append(each, []int{i})
		}
		lookAtGroups(t, likeRoutes(0, many, 5), countTo(many))
		lookAtGroups(t, unlikeRoutes(0, many), each...)
	}
	lookAtGroups(t, routesAt(0, 5, 5, 6), []int{0, 1}, []int{2})
	lookAtGroups(t, routesAt(0, 5, 6, 6), []int{0}, []int{1, 2})
	lookAtGroups(t, routesAt(0, 6, 5, 6), []int{0, 2}, []int{1})
	lookAtGroups(t, routesAt(0, 5, 6, 5, 6), []int{0, 2}, []int{1, 3})
	lookAtGroups(t, routesAt(0, 5, 6, 6, 5), []int{0, 3}, []int{1, 2})
	lookAtGroups(t, []impl.Route{{Prefix: tenNet(8)}, {Prefix: tenNet(9), Attrs: impl.Attrs{Path: []int{}, Comms: []int{}}}}, []int{0, 1})
	for name, change := range attrsChanges() {
		other := plainAttrs()
		change(&other)
		t.Run(name, func(t *testing.T) {
			l := []impl.Route{{Prefix: tenNet(8), Attrs: plainAttrs()}, {Prefix: tenNet(9), Attrs: other}, {Prefix: tenNet(16), Attrs: plainAttrs()}, {Prefix: tenNet(17), Attrs: other}}
			lookAtGroups(t, l, []int{0, 2}, []int{1, 3})
			lookAtGroups(t, l[:2], []int{0}, []int{1})
		})
	}
	eachRow([]int{1, 2, 3}, 6, func(numbers []int) {
		l := routesAt(0, numbers...)
		lookAtGroups(t, l, groupsByWords(l)...)
	})
	for _, l := range goodRouteTables() {
		lookAtGroups(t, l, groupsByWords(l)...)
	}
}

// ownAhead is the route as it is exported of an offer.
func ownAhead(p impl.Prefix, o impl.Offer) impl.Route {
	o.Attrs.Path = append([]int{ownAsn}, o.Attrs.Path...)
	return impl.Route{Prefix: p, Attrs: o.Attrs}
}

// TestTheBestOfAPeerIsNotToldToIt: no other one is told in its place either.
func TestTheBestOfAPeerIsNotToldToIt(t *testing.T) {
	p, q := tenNet(8), tenNet(16)
	one, two := offerBy(1, 100, 3), offerBy(2, 90, 4)
	lookAtExport(t, ribWith(), 1, allAccepted)
	lookAtExport(t, ribWith(ribRow(p, one)), 1, allAccepted)
	lookAtExport(t, ribWith(ribRow(p, one)), 2, allAccepted, ownAhead(p, one))
	r := ribWith(ribRow(p, one, two), ribRow(q, two))
	lookAtExport(t, r, 0, allAccepted, ownAhead(p, one), ownAhead(q, two))
	lookAtExport(t, r, 1, allAccepted, ownAhead(q, two))
	lookAtExport(t, r, 2, allAccepted, ownAhead(p, one)) // its own offer is not the best one there
	lookAtExport(t, r, 5, allAccepted, ownAhead(p, one), ownAhead(q, two))
	round := offerBy(3, 900, 5, ownAsn) // does not count: it is neither told nor in another one's way
	r = ribWith(ribRow(p, one, round), ribRow(q, round))
	lookAtExport(t, r, 0, allAccepted, ownAhead(p, one))
	lookAtExport(t, r, 3, allAccepted, ownAhead(p, one))
	lookAtExport(t, r, 1, allAccepted)
	lookAtExport(t, ribWith(ribRow(p, impl.Offer{})), 0, allAccepted)
	lookAtExport(t, ribWith(ribRow(p, impl.Offer{})), 1, allAccepted, ownAhead(p, impl.Offer{}))
	for _, own := range []int{1, ownAsn, mostAsn} {
		r := impl.Rib{Own: own, Rows: []impl.Row{ribRow(p, offerBy(1, 100, 9))}}
		lookAtExport(t, r, 0, allAccepted, impl.Route{Prefix: p, Attrs: impl.Attrs{Pref: 100, Path: []int{own, 9}}})
		lookAtExport(t, impl.Rib{Own: own}, 0, allAccepted)
	}
	for _, a := range goodAttrs() {
		if len(a.Path) < mostPath {
			o := impl.Offer{Peer: 3, Attrs: a}
			r := impl.Rib{Own: 99999 % mostAsn, Rows: []impl.Row{ribRow(p, o)}}
			lookAtExport(t, r, 2, allAccepted, exportByWords(r, 2, allAccepted)...)
		}
	}
}

func TestAPathThatIsTooLongWithOwnIsLeftOut(t *testing.T) {
	l := apart(10<<24, 3)
	for long := range mostPath + 1 {
		o := offerBy(1, 100, slices.Repeat([]int{3}, long)...)
		worse := offerBy(2, 90, 4)
		r := ribWith(ribRow(l[0], offerBy(4, 5, 6)), ribRow(l[1], o, worse), ribRow(l[2], worse))
		want := []impl.Route{ownAhead(l[0], offerBy(4, 5, 6)), ownAhead(l[1], o), ownAhead(l[2], worse)}
		if long == mostPath { // and the worse one is not told in its place
			want = slices.Delete(want, 1, 2)
		}
		lookAtExport(t, r, 0, allAccepted, want...)
		lookAtExport(t, r, 0, impl.Policy{})
	}
	r := fullRib() // each of its paths is as long as may be
	for peer := range mostPeers {
		lookAtExport(t, r, peer, allAccepted)
	}
}

// TestThePolicySeesTheRouteWithOwnAhead refuses some and changes some.
func TestThePolicySeesTheRouteWithOwnAhead(t *testing.T) {
	l := apart(10<<24, 3)
	one, two, three := offerBy(1, 100, 3), offerBy(2, 90, 4), offerBy(3, 80)
	r := ribWith(ribRow(l[0], one), ribRow(l[1], two), ribRow(l[2], three))
	exported := []impl.Route{ownAhead(l[0], one), ownAhead(l[1], two), ownAhead(l[2], three)}
	lookAtExport(t, r, 0, allAccepted, exported...)
	lookAtExport(t, r, 0, impl.Policy{})
	accept := func(path string) impl.Policy {
		return policyOf(false, impl.Term{Path: cells(path), Comm: -1, Verdict: impl.VerdictAccept})
	}
	lookAtExport(t, r, 0, accept("then 7 star any"), exported...)
	lookAtExport(t, r, 0, accept("then 7 3"), exported[0])
	lookAtExport(t, r, 0, accept("7"), exported[2])
	lookAtExport(t, r, 0, accept("then 3 star any"))
	refuse := policyOf(true, impl.Term{Path: cells("then any 4"), Comm: -1, Verdict: impl.VerdictReject})
	lookAtExport(t, r, 0, refuse, exported[0], exported[2])
	lookAtExport(t, r, 1, refuse, exported[2])
	lookAtExport(t, r, 2, refuse, exported[0], exported[2])
	change := policyOf(true, impl.Term{Path: cells("then 7 4"), Comm: -1, Acts: actsOf(impl.ActPref, 5, impl.ActAdd, 8, impl.ActPrepend, 9)})
	changed := impl.Route{Prefix: l[1], Attrs: impl.Attrs{Path: []int{9, 7, 4}, Pref: 5, Comms: []int{8}}}
	lookAtExport(t, r, 0, change, exported[0], changed, exported[2])
	nets := policyOf(false, impl.Term{Ranges: []impl.Range{{Prefix: l[1], Lo: 32, Hi: 32}}, Comm: -1, Verdict: impl.VerdictAccept})
	lookAtExport(t, r, 0, nets, exported[1])
	lookAtExport(t, r, 2, nets)
	longest := ribWith(ribRow(l[0], offerBy(1, 100, slices.Repeat([]int{3}, mostPath-1)...))) // with Own there is no room for more
	ahead := policyOf(true, impl.Term{Comm: -1, Acts: actsOf(impl.ActPrepend, 9, impl.ActMed, 4)})
	want := ownAhead(l[0], longest.Rows[0].Offers[0])
	want.Attrs.Med = 4
	lookAtExport(t, longest, 0, ahead, want)
}

func TestExportToOfManyRibs(t *testing.T) {
	r := rand.New(rand.NewSource(144))
	policies := goodPolicies()
	refused, changed := 0, 0
	for i, rib := range goodRibs() {
		for peer := range mostPeers {
			plain := exportByWords(rib, peer, allAccepted)
			lookAtExport(t, rib, peer, allAccepted, plain...)
			for range 4 {
				p := policies[r.Intn(len(policies))]
				want := exportByWords(rib, peer, p)
				lookAtExport(t, rib, peer, p, want...)
				if len(want) < len(plain) {
					refused++
				} else if !sameRoutes(want, plain) {
					changed++
				}
			}
			lookAtExport(t, rib, peer, policies[(i+peer)%len(policies)], exportByWords(rib, peer, policies[(i+peer)%len(policies)])...)
		}
	}
	if refused < 100 || changed < 100 {
		t.Error(refused, changed)
	}
}

func TestAsManyRoutesAsThereMayBeAreExported(t *testing.T) {
	for many := range mostRows + 1 {
		o := offerBy(3, 100, 4)
		var want []impl.Route
		for _, p := range apart(0, many) {
			want = append(want, ownAhead(p, o))
		}
		lookAtExport(t, rowsApart(many, o), 0, allAccepted, want...)
		lookAtExport(t, rowsApart(many, o), 3, allAccepted)
	}
}

func TestPeersAtTheirBoundsAreToldTo(t *testing.T) {
	p := tenNet(8)
	for _, peer := range allPeers() {
		o := offerBy((peer+1)%mostPeers, 100, 3)
		lookAtExport(t, ribWith(ribRow(p, o)), peer, allAccepted, ownAhead(p, o))
		lookAtExport(t, ribWith(ribRow(p, offerBy(peer, 100, 3))), peer, allAccepted)
		want := impl.Update{Attrs: ownAhead(p, o).Attrs, Come: []impl.Prefix{p}}
		if got, ok := impl.TellPeer(ribWith(), ribWith(ribRow(p, o)), peer, allAccepted); !sameUpdates(got, []impl.Update{want}) || !ok {
			t.Errorf("TellPeer of %d = %v, %v", peer, got, ok)
		}
	}
	for _, peer := range badPeers() {
		for _, r := range []impl.Rib{{Own: 1}, ribWith(ribRow(p, offerBy(0, 100, 3))), fullRib()} {
			refusesExport(t, "a peer", r, peer, allAccepted)
			refusesExport(t, "a peer, nothing accepted", r, peer, impl.Policy{})
			refusesTellPeer(t, "a peer", r, r, peer, allAccepted)
			refusesTellPeer(t, "a peer", impl.Rib{Own: 1}, r, peer, allAccepted)
		}
	}
}

func TestRibsThatAreNotGoodAreNotExported(t *testing.T) {
	good := []impl.Rib{{Own: 1}, ribWith(ribRow(tenNet(8), offerBy(0, 100, 3))), fullRib()}
	for name, bad := range badRibs() {
		for _, peer := range []int{-1, 0, 2, mostPeers} {
			refusesExport(t, name, bad, peer, allAccepted)
			refusesExport(t, name, bad, peer, impl.Policy{})
			refusesTellPeer(t, name+", both", bad, bad, peer, allAccepted)
			for _, r := range good {
				refusesTellPeer(t, name+", old", bad, r, peer, allAccepted)
				refusesTellPeer(t, name+", now", r, bad, peer, allAccepted)
			}
		}
	}
}

func TestPoliciesThatAreNotGoodExportNothing(t *testing.T) {
	ribs := []impl.Rib{{Own: 1}, ribWith(ribRow(tenNet(8), offerBy(0, 100, 3))), fullRib()}
	for name, p := range badPolicies() {
		for _, r := range ribs {
			refusesExport(t, name, r, 2, p)
			refusesTellPeer(t, name, r, r, 2, p)
		}
	}
}

// lookAtToldPeer asks of what a peer is told what the document promises, and holds it against the words.
func lookAtToldPeer(t *testing.T, old, now impl.Rib, peer int, p impl.Policy) []impl.Update {
	t.Helper()
	before, beforeOk := impl.ExportTo(old, peer, p)
	then, thenOk := impl.ExportTo(now, peer, p)
	told, ok := impl.TellPeer(old, now, peer, p)
	if !beforeOk || !thenOk || !ok {
		t.Fatalf("from %v to %v, to %d by %v: %v, %v, %v", old, now, peer, p, beforeOk, thenOk, ok)
	}
	if want := tellByWords(exportByWords(old, peer, p), exportByWords(now, peer, p)); !sameUpdates(told, want) {
		t.Errorf("TellPeer(%v, %v, %d, %v) = %v, not %v", old, now, peer, p, told, want)
	}
	lookAtHearAll(t, before, told, then...)
	if same := sameRoutes(before, then); same != (len(told) == 0) {
		t.Errorf("TellPeer(%v, %v, %d, %v) = %v, and the tables are the same: %v", old, now, peer, p, told, same)
	}
	return told
}

// TestWhatAPeerIsToldInManyPlays: it hears of nothing but what is changed for it.
func TestWhatAPeerIsToldInManyPlays(t *testing.T) {
	r := rand.New(rand.NewSource(145))
	policies := append([]impl.Policy{allAccepted, allAccepted, allAccepted}, goodPolicies()...)
	some, nothing := 0, 0
	for range 200 {
		pool := mixedPool(r)
		rib := mixedRib(pool, r)
		for range 6 {
			next, changed, ok := impl.TakeUpdate(rib, r.Intn(mostPeers), updateAmong(pool, r))
			if r.Intn(6) == 0 {
				next, changed, ok = impl.DropPeer(rib, r.Intn(mostPeers))
			}
			if !ok {
				continue
			}
			p := policies[r.Intn(len(policies))]
			for peer := range mostPeers {
				told := lookAtToldPeer(t, rib, next, peer, p)
				for _, u := range told {
					for _, prefix := range slices.Concat(u.Gone, u.Come) {
						if !slices.Contains(changed, prefix) {
							t.Errorf("from %v to %v: %v changed, %v is told to %d", rib, next, changed, u, peer)
						}
					}
				}
				if len(told) > 0 {
					some++
				} else {
					nothing++
				}
				if len(changed) == 0 && len(told) > 0 {
					t.Errorf("from %v to %v nothing changed, %v is told to %d", rib, next, told, peer)
				}
			}
			rib = next
		}
	}
	if some < 1000 || nothing < 1000 {
		t.Error(some, nothing)
	}
}

// TestWhatAPeerIsToldOfRibsWithNothingInCommon: their Owns may be others, too.
func TestWhatAPeerIsToldOfRibsWithNothingInCommon(t *testing.T) {
	ribs := goodRibs()
	for i, old := range ribs {
		for j := i % 7; j < len(ribs); j += 7 {
			lookAtToldPeer(t, old, ribs[j], (i+j)%mostPeers, allAccepted)
		}
		lookAtToldPeer(t, old, old, i%mostPeers, allAccepted)
	}
	p := tenNet(8)
	row := ribRow(p, offerBy(1, 100, 3))
	got := lookAtToldPeer(t, impl.Rib{Own: 8, Rows: []impl.Row{row}}, impl.Rib{Own: 9, Rows: []impl.Row{row}}, 2, allAccepted)
	want := impl.Update{Attrs: impl.Attrs{Path: []int{9, 3}, Pref: 100}, Come: []impl.Prefix{p}}
	if !sameUpdates(got, []impl.Update{want}) {
		t.Error(got)
	}
}

func TestWhatAPeerIsTold(t *testing.T) {
	p, q := tenNet(8), tenNet(16)
	one, two := offerBy(1, 100, 3), offerBy(2, 90, 4)
	come := func(l ...impl.Route) impl.Update { return impl.Update{Attrs: l[0].Attrs, Come: prefixesIn(l)} }
	for _, c := range []struct {
		name     string
		old, now impl.Rib
		peer     int
		want     []impl.Update
	}{
		{"a route that comes", ribWith(), ribWith(ribRow(p, one)), 0, []impl.Update{come(ownAhead(p, one))}},
		{"one that it told itself", ribWith(), ribWith(ribRow(p, one)), 1, nil},
		{"one that goes", ribWith(ribRow(p, one), ribRow(q, two)), ribWith(ribRow(q, two)), 0, []impl.Update{goes(p)}},
		{"one that it told itself goes", ribWith(ribRow(p, one)), ribWith(), 1, nil},
		{"one that is behind the best one", ribWith(ribRow(p, one)), ribWith(ribRow(p, one, two)), 0, nil},
		{"a best one that goes", ribWith(ribRow(p, one, two)), ribWith(ribRow(p, two)), 0, []impl.Update{come(ownAhead(p, two))}},
		{"its own is the best one then", ribWith(ribRow(p, one, two)), ribWith(ribRow(p, two)), 2, []impl.Update{goes(p)}},
		{"its own was the best one", ribWith(ribRow(p, one, two)), ribWith(ribRow(p, two)), 1, []impl.Update{come(ownAhead(p, two))}},
		{"two of the same", ribWith(), ribWith(ribRow(p, one), ribRow(q, one)), 0, []impl.Update{come(ownAhead(p, one), ownAhead(q, one))}},
	} {
		got, ok := impl.TellPeer(c.old, c.now, c.peer, allAccepted)
		if !sameUpdates(got, c.want) || !ok {
			t.Errorf("%s: %v, %v, not %v", c.name, got, ok, c.want)
		}
		if got, ok := impl.TellPeer(c.old, c.now, c.peer, impl.Policy{}); len(got) != 0 || !ok {
			t.Errorf("%s, nothing accepted: %v, %v", c.name, got, ok)
		}
	}
}

func updatesLists(name string, l []impl.Update) []memoryList {
	all := []memoryList{listOf(name, l, func(n int) impl.Update { return impl.Update{Gone: []impl.Prefix{markedPrefix(n)}} }, sameUpdate)}
	for i, u := range l {
		each := fmt.Sprint(name, " ", i)
		all = append(all, prefixesList(each+" Gone", u.Gone), prefixesList(each+" Come", u.Come))
		all = append(all, attrsLists(each, u.Attrs)...)
	}
	return all
}

func groupsLists(name string, l [][]int) []memoryList {
	all := []memoryList{listOf(name, l, func(n int) []int { return []int{markedNumber(n)} }, slices.Equal[[]int])}
	for i, group := range l {
		all = append(all, listOf(fmt.Sprint(name, " ", i), group, markedNumber, func(n, m int) bool { return n == m }))
	}
	return all
}

func updatesWithBehind(l []impl.Update, behind impl.Update) []impl.Update {
	var own []impl.Update
	for _, u := range l {
		own = append(own, updateWithBehind(u))
	}
	return withBehind(own, behind)
}

func wholeUpdates(l []impl.Update) []impl.Update {
	own := whole(l)
	for i, u := range own {
		own[i] = wholeUpdate(u)
	}
	return own
}

func handsOutUpdatesBehind(l []impl.Update) bool {
	for _, u := range wholeUpdates(l) {
		if slices.Contains(u.Gone, behindPrefix) || slices.Contains(u.Come, behindPrefix) || handsOutBehind(impl.Route{Attrs: u.Attrs}) {
			return true
		}
	}
	return false
}

// routesAhead puts routes behind the table's that are not good, or such as would be.
func routesAhead(l []impl.Route, behind impl.Route) []impl.Route {
	var own []impl.Route
	for _, r := range l {
		own = append(own, routeWithBehind(r))
	}
	return withBehind(own, behind)
}

// lookAtTableMemory hands all in with memory behind it, holds what is answered against what is answered without it, writes into all of it, and looks at the arguments again.
func lookAtTableMemory(t *testing.T, old, now []impl.Route, updates []impl.Update, behind impl.Route) {
	t.Helper()
	givenOld, givenNow := routesAhead(old, behind), routesAhead(now, behind)
	givenUpdates := updatesWithBehind(updates, goes(behind.Prefix))
	keptOld, keptNow, keptUpdates := wholeRoutes(givenOld), wholeRoutes(givenNow), wholeUpdates(givenUpdates)
	unchanged := func(name string) {
		t.Helper()
		if !sameRoutes(wholeRoutes(givenOld), keptOld) || !sameRoutes(wholeRoutes(givenNow), keptNow) || !sameUpdates(wholeUpdates(givenUpdates), keptUpdates) {
			t.Fatalf("%s: %v, %v, %v became %v, %v, %v", name, keptOld, keptNow, keptUpdates, wholeRoutes(givenOld), wholeRoutes(givenNow), wholeUpdates(givenUpdates))
		}
	}
	if impl.GoodRoutes(givenOld) != impl.GoodRoutes(old) {
		t.Errorf("GoodRoutes(%v): what lies behind is read", old)
	}
	unchanged("GoodRoutes")
	same, ok := impl.SameRoutes(givenOld, givenNow)
	if want, wantOk := impl.SameRoutes(old, now); same != want || ok != wantOk {
		t.Errorf("SameRoutes(%v, %v) = %v, %v", old, now, same, ok)
	}
	unchanged("SameRoutes")
	groups, ok := impl.GroupsOf(givenOld)
	if want, wantOk := impl.GroupsOf(old); !slices.EqualFunc(groups, want, slices.Equal[[]int]) || ok != wantOk {
		t.Errorf("GroupsOf(%v) = %v, %v", old, groups, ok)
	}
	lookAtLists(t, "GroupsOf", groupsLists("groups", groups))
	unchanged("GroupsOf")
	told, ok := impl.TellFrom(givenOld, givenNow)
	if want, wantOk := impl.TellFrom(old, now); !sameUpdates(told, want) || ok != wantOk || handsOutUpdatesBehind(told) {
		t.Errorf("TellFrom(%v, %v) = %v, %v", old, now, wholeUpdates(told), ok)
	}
	lookAtLists(t, "TellFrom", updatesLists("told", told))
	unchanged("TellFrom")
	heard, ok := impl.HearAll(givenOld, givenUpdates)
	if want, wantOk := impl.HearAll(old, updates); !sameRoutes(heard, want) || ok != wantOk || handsOutBehind(whole(heard)...) {
		t.Errorf("HearAll(%v, %v) = %v, %v", old, updates, wholeRoutes(heard), ok)
	}
	lookAtLists(t, "HearAll", routesLists("heard", heard))
	unchanged("HearAll")
}

func TestTablesOfRoutesAreNotWrittenIntoNorShared(t *testing.T) {
	rd := rand.New(rand.NewSource(146))
	fine := routeAt(prefixAt(lastAddr, 32), 1) // would be a route as good as others
	tables, bad := goodRouteTables(), badUpdates()
	for i, old := range tables {
		now := tables[rd.Intn(len(tables))]
		told, _ := impl.TellFrom(old, now)
		for _, behind := range []impl.Route{behindRoute, fine} {
			lookAtTableMemory(t, old, now, nil, behind)
			lookAtTableMemory(t, old, now, told, behind)
			lookAtTableMemory(t, now, old, []impl.Update{{}, updateAmong(manyPrefixes(), rd), {}}, behind)
			lookAtTableMemory(t, old, old, []impl.Update{goes(prefixesIn(old)[:min(len(old), mostNlri)]...)}, behind)
		}
		lookAtTableMemory(t, old, now, []impl.Update{updateAmong(manyPrefixes(), rd), bad[i%len(bad)]}, behindRoute)
	}
	for name, l := range badRouteTables() {
		if len(l) < 100 && len(name)%3 == 0 {
			lookAtTableMemory(t, l, likeRoutes(0, 3, 5), []impl.Update{comesLike(1, tenNet(8))}, behindRoute)
			lookAtTableMemory(t, likeRoutes(0, 3, 5), l, []impl.Update{comesLike(1, tenNet(8))}, fine)
		}
	}
}

// lookAtExportMemory does likewise with ribs and a policy.
func lookAtExportMemory(t *testing.T, old, now impl.Rib, peer int, p impl.Policy, behind impl.Row) {
	t.Helper()
	givenOld, givenNow, givenP := ribWithBehind(old, behind), ribWithBehind(now, behind), policyWithBehind(p)
	keptOld, keptNow, keptP := wholeRib(givenOld), wholeRib(givenNow), wholePolicy(givenP)
	unchanged := func(name string) {
		t.Helper()
		if !sameRib(wholeRib(givenOld), keptOld) || !sameRib(wholeRib(givenNow), keptNow) || !samePolicy(wholePolicy(givenP), keptP) {
			t.Fatalf("%s: %v, %v, %v became %v, %v, %v", name, keptOld, keptNow, keptP, wholeRib(givenOld), wholeRib(givenNow), wholePolicy(givenP))
		}
	}
	exported, ok := impl.ExportTo(givenNow, peer, givenP)
	if want, wantOk := impl.ExportTo(now, peer, p); !sameRoutes(exported, want) || ok != wantOk || handsOutBehind(whole(exported)...) {
		t.Errorf("ExportTo(%v, %d, %v) = %v, %v", now, peer, p, wholeRoutes(exported), ok)
	}
	lookAtLists(t, "ExportTo", routesLists("exported", exported))
	unchanged("ExportTo")
	told, ok := impl.TellPeer(givenOld, givenNow, peer, givenP)
	if want, wantOk := impl.TellPeer(old, now, peer, p); !sameUpdates(told, want) || ok != wantOk || handsOutUpdatesBehind(told) {
		t.Errorf("TellPeer(%v, %v, %d, %v) = %v, %v", old, now, peer, p, wholeUpdates(told), ok)
	}
	lookAtLists(t, "TellPeer", updatesLists("told", told))
	unchanged("TellPeer")
}

func TestWhatIsExportedIsNotWrittenIntoNorShared(t *testing.T) {
	rd := rand.New(rand.NewSource(147))
	ribs, policies := goodRibs(), goodPolicies()
	fine := ribRow(prefixAt(lastAddr, 32), offerBy(1, 100, 3))
	for i, old := range ribs {
		now := ribs[rd.Intn(len(ribs))]
		for _, behind := range []impl.Row{behindRow, fine} {
			lookAtExportMemory(t, old, now, i%mostPeers, allAccepted, behind)
			lookAtExportMemory(t, old, now, i%mostPeers, policies[rd.Intn(len(policies))], behind)
		}
		lookAtExportMemory(t, now, old, -1, allAccepted, behindRow)
	}
	for name, r := range badRibs() {
		if len(r.Rows) < 100 && (len(r.Rows) == 0 || len(r.Rows[0].Offers) < 100) && len(name)%3 == 0 {
			lookAtExportMemory(t, r, ribs[4], 1, allAccepted, behindRow)
			lookAtExportMemory(t, ribs[4], r, 1, allAccepted, behindRow)
		}
	}
	for name, p := range badPolicies() {
		if len(p.Terms) < 100 && len(name)%9 == 0 {
			lookAtExportMemory(t, ribs[4], ribs[5], 1, p, behindRow)
		}
	}
}

// TestOneListInManyPlacesOfWhatIsTold hands in routes, offers and updates of one memory: in the answer each has its own.
func TestOneListInManyPlacesOfWhatIsTold(t *testing.T) {
	numbers := []int{3, 4, 5}
	both := impl.Attrs{Path: numbers, Comms: numbers}
	var now []impl.Route
	offers := likeOffers(both, allPeers()...)
	rib := ribWith()
	for i, p := range apart(0, mostTold) {
		now = append(now, impl.Route{Prefix: p, Attrs: both})
		now[i].Attrs.Med = i / 13
		rib.Rows = append(rib.Rows, impl.Row{Prefix: p, Offers: offers})
	}
	groups, _ := impl.GroupsOf(now)
	lookAtLists(t, "GroupsOf", groupsLists("groups", groups))
	for _, old := range [][]impl.Route{nil, now[:7], likeRoutes(1<<20, mostTold, 5)} {
		told, ok := impl.TellFrom(old, now)
		if len(told) < 2 || !ok {
			t.Fatal(told, ok)
		}
		heard, ok := impl.HearAll(old, told)
		if len(heard) != mostTold || !ok {
			t.Fatal(heard, ok)
		}
		again, ok := impl.HearAll(now, []impl.Update{{Attrs: both, Come: prefixesIn(now)[:mostNlri]}})
		if len(again) != mostTold || !ok {
			t.Fatal(again, ok)
		}
		lookAtLists(t, "HearAll", routesLists("heard", heard))
		lookAtLists(t, "HearAll", routesLists("again", again))
		if !sameUpdates(told, tellByWords(old, now)) {
			t.Fatal("TellFrom shares memory with HearAll")
		}
		lookAtLists(t, "TellFrom", updatesLists("told", told))
	}
	exported, ok := impl.ExportTo(rib, 3, allAccepted)
	if len(exported) != mostTold || !ok {
		t.Fatal(exported, ok)
	}
	lookAtLists(t, "ExportTo", routesLists("exported", exported))
	told, ok := impl.TellPeer(ribWith(), rib, 3, allAccepted)
	if len(told) != 2 || !ok {
		t.Fatal(told, ok)
	}
	lookAtLists(t, "TellPeer", updatesLists("told", told))
	if !slices.Equal(numbers, []int{3, 4, 5}) {
		t.Error(numbers)
	}
}

// TestWhatIsHeardIsTheAnswersAlone: with nothing to hear the table is told in memory of its own as well.
func TestWhatIsHeardIsTheAnswersAlone(t *testing.T) {
	l := []impl.Route{{Prefix: tenNet(8), Attrs: plainAttrs()}, {Prefix: tenNet(9), Attrs: plainAttrs()}}
	for _, updates := range [][]impl.Update{nil, {}, {{}}, {goes(tenNet(10))}} {
		heard, ok := impl.HearAll(l, updates)
		if !sameRoutes(heard, l) || !ok {
			t.Fatal(heard, ok)
		}
		overwriteRoutes(heard)
		if !sameRoute(l[0], impl.Route{Prefix: tenNet(8), Attrs: plainAttrs()}) || !sameRoute(l[1], impl.Route{Prefix: tenNet(9), Attrs: plainAttrs()}) {
			t.Fatalf("HearAll(.., %v): the argument became %v", updates, l)
		}
	}
}

// TestGroupsComeByAnIterator looks for a function that answers an iterator and is ranged over by what GroupsOf and TellFrom reach.
func TestGroupsComeByAnIterator(t *testing.T) {
	parsed, err := parser.ParseFile(token.NewFileSet(), "../impl/l14_tell.go", nil, parser.SkipObjectResolution)
	if err != nil {
		t.Fatal(err)
	}
	yields, ranged := map[string]bool{}, map[string]int{}
	for _, d := range parsed.Decls {
		f, is := d.(*ast.FuncDecl)
		if !is {
			continue
		}
		ast.Inspect(f.Body, func(n ast.Node) bool {
			switch x := n.(type) {
			case *ast.FuncLit:
				for _, p := range x.Type.Params.List {
					if len(p.Names) == 1 && p.Names[0].Name == "yield" {
						yields[f.Name.Name] = true
					}
				}
			case *ast.RangeStmt:
				if call, is := x.X.(*ast.CallExpr); is {
					if of, is := call.Fun.(*ast.Ident); is {
						ranged[of.Name]++
					}
				}
			}
			return true
		})
	}
	if len(yields) == 0 {
		t.Error("no iterator")
	}
	for name := range yields {
		if ranged[name] < 2 {
			t.Errorf("%s is ranged over %d times", name, ranged[name])
		}
	}
}
