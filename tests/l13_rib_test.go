package tests

import (
	"fmt"
	"go/ast"
	"go/parser"
	"go/token"
	"maps"
	"math/rand"
	"slices"
	"testing"

	"loop.example/g00344/impl"
)

const mostRows = 20
const mostTaken = 40

// ownAsn is the number of most ribs of these tests.
const ownAsn = 7

func sameRow(a, b impl.Row) bool {
	return a.Prefix == b.Prefix && sameOffers(a.Offers, b.Offers)
}

func sameRib(a, b impl.Rib) bool {
	return a.Own == b.Own && slices.EqualFunc(a.Rows, b.Rows, sameRow)
}

func isZeroRib(r impl.Rib) bool {
	return sameRib(r, impl.Rib{})
}

// heardModel is what each peer told last of each prefix.
type heardModel map[impl.Prefix]map[int]impl.Attrs

func modelOf(r impl.Rib) heardModel {
	m := heardModel{}
	for _, row := range r.Rows {
		m[row.Prefix] = map[int]impl.Attrs{}
		for _, o := range row.Offers {
			m[row.Prefix][o.Peer] = o.Attrs
		}
	}
	return m
}

func (m heardModel) prefixes() []impl.Prefix {
	return slices.SortedFunc(maps.Keys(m), comparePrefixes)
}

func (m heardModel) rib(own int) impl.Rib {
	r := impl.Rib{Own: own}
	for _, p := range m.prefixes() {
		row := impl.Row{Prefix: p}
		for _, peer := range slices.Sorted(maps.Keys(m[p])) {
			row.Offers = append(row.Offers, impl.Offer{Peer: peer, Attrs: m[p][peer]})
		}
		r.Rows = append(r.Rows, row)
	}
	return r
}

func (m heardModel) best(own int, p impl.Prefix) (impl.Offer, bool) {
	best, found := impl.Offer{}, false
	for peer, a := range m[p] {
		o := impl.Offer{Peer: peer, Attrs: a}
		if !slices.Contains(a.Path, own) && (!found || compareByWords(o, best) < 0) {
			best, found = o, true
		}
	}
	return best, found
}

func (m heardModel) tell(peer int, u impl.Update) {
	for _, p := range u.Gone {
		delete(m[p], peer)
		if len(m[p]) == 0 {
			delete(m, p)
		}
	}
	for _, p := range u.Come {
		if m[p] == nil {
			m[p] = map[int]impl.Attrs{}
		}
		m[p][peer] = u.Attrs
	}
}

func (m heardModel) heard(peer int) []impl.Route {
	var l []impl.Route
	for _, p := range m.prefixes() {
		if a, is := m[p][peer]; is {
			l = append(l, impl.Route{Prefix: p, Attrs: a})
		}
	}
	return l
}

// changedByModel looks at all prefixes of both, whoever touched them.
func changedByModel(own int, old, now heardModel) []impl.Prefix {
	all := slices.Concat(old.prefixes(), now.prefixes())
	slices.SortFunc(all, comparePrefixes)
	var changed []impl.Prefix
	for _, p := range slices.Compact(all) {
		before, was := old.best(own, p)
		then, is := now.best(own, p)
		if was != is || !sameOffer(before, then) {
			changed = append(changed, p)
		}
	}
	return changed
}

// takeByWords tells what TakeUpdate is to answer of a good rib, a peer and a good update.
func takeByWords(r impl.Rib, peer int, u impl.Update) (impl.Rib, []impl.Prefix, bool) {
	now := modelOf(r)
	now.tell(peer, u)
	if len(now) > mostRows {
		return impl.Rib{}, nil, false
	}
	return now.rib(r.Own), changedByModel(r.Own, modelOf(r), now), true
}

func dropByWords(r impl.Rib, peer int) (impl.Rib, []impl.Prefix) {
	now := modelOf(r)
	for _, p := range now.prefixes() {
		delete(now[p], peer)
		if len(now[p]) == 0 {
			delete(now, p)
		}
	}
	return now.rib(r.Own), changedByModel(r.Own, modelOf(r), now)
}

func lookAtTake(t *testing.T, r impl.Rib, peer int, u impl.Update, want impl.Rib, wantTold ...impl.Prefix) {
	t.Helper()
	got, told, ok := impl.TakeUpdate(r, peer, u)
	if !sameRib(got, want) || !slices.Equal(told, wantTold) || !ok {
		t.Errorf("TakeUpdate(%v, %d, %v) = %v, %v, %v, not %v, %v", r, peer, u, got, told, ok, want, wantTold)
	}
}

func refusesTake(t *testing.T, r impl.Rib, peer int, u impl.Update) {
	t.Helper()
	if got, told, ok := impl.TakeUpdate(r, peer, u); !isZeroRib(got) || len(told) != 0 || ok {
		t.Errorf("TakeUpdate(%v, %d, %v) = %v, %v, %v", r, peer, u, got, told, ok)
	}
}

func lookAtDropPeer(t *testing.T, r impl.Rib, peer int, want impl.Rib, wantTold ...impl.Prefix) {
	t.Helper()
	got, told, ok := impl.DropPeer(r, peer)
	if !sameRib(got, want) || !slices.Equal(told, wantTold) || !ok {
		t.Errorf("DropPeer(%v, %d) = %v, %v, %v, not %v, %v", r, peer, got, told, ok, want, wantTold)
	}
}

func lookAtBestAt(t *testing.T, r impl.Rib, p impl.Prefix, want impl.Offer, wantOk bool) {
	t.Helper()
	if got, ok := impl.BestAt(r, p); !sameOffer(got, want) || ok != wantOk {
		t.Errorf("BestAt(%v, %v) = %v, %v, not %v, %v", r, p, got, ok, want, wantOk)
	}
}

func lookAtBestRows(t *testing.T, r impl.Rib, want []impl.Offer, wantPrefixes ...impl.Prefix) {
	t.Helper()
	got, prefixes, ok := impl.BestRows(r)
	if !sameOffers(got, want) || !slices.Equal(prefixes, wantPrefixes) || !ok {
		t.Errorf("BestRows(%v) = %v, %v, %v, not %v, %v", r, got, prefixes, ok, want, wantPrefixes)
	}
}

func lookAtHeard(t *testing.T, r impl.Rib, peer int, want ...impl.Route) {
	t.Helper()
	if got, ok := impl.HeardFrom(r, peer); !sameRoutes(got, want) || !ok {
		t.Errorf("HeardFrom(%v, %d) = %v, %v, not %v", r, peer, got, ok, want)
	}
}

func lookAtTakeAll(t *testing.T, own int, peers []int, l []impl.Update, want impl.Rib) {
	t.Helper()
	if got, ok := impl.TakeAll(own, peers, l); !sameRib(got, want) || !ok {
		t.Errorf("TakeAll(%d, %v, %v) = %v, %v, not %v", own, peers, l, got, ok, want)
	}
}

func refusesTakeAll(t *testing.T, name string, own int, peers []int, l []impl.Update) {
	t.Helper()
	if got, ok := impl.TakeAll(own, peers, l); !isZeroRib(got) || ok {
		t.Errorf("%s: TakeAll(%d, %v, ..) of %d = %v, %v", name, own, peers, len(l), got, ok)
	}
}

// lookAtChanged asks by BestAt alone whether just the prefixes told have another best one; it asks of all of both ribs, and of some more.
func lookAtChanged(t *testing.T, old, now impl.Rib, told []impl.Prefix, more ...impl.Prefix) {
	t.Helper()
	for i := 1; i < len(told); i++ {
		if comparePrefixes(told[i-1], told[i]) >= 0 {
			t.Errorf("told %v does not rise", told)
		}
	}
	all := slices.Concat(more, told)
	for _, row := range slices.Concat(old.Rows, now.Rows) {
		all = append(all, row.Prefix)
	}
	slices.SortFunc(all, comparePrefixes)
	for _, p := range slices.Compact(all) {
		before, was := impl.BestAt(old, p)
		then, is := impl.BestAt(now, p)
		changed := was != is || !sameOffer(before, then)
		if changed != slices.Contains(told, p) {
			t.Errorf("from %v to %v: at %v %v, %v became %v, %v; told %v", old, now, p, before, was, then, is, told)
		}
	}
}

// lookAtRib asks all that only looks at a good rib.
func lookAtRib(t *testing.T, r impl.Rib, more ...impl.Prefix) {
	t.Helper()
	if !impl.GoodRib(r) {
		t.Fatalf("%v is not good", r)
	}
	m := modelOf(r)
	var offers []impl.Offer
	var prefixes []impl.Prefix
	for _, p := range m.prefixes() {
		best, is := m.best(r.Own, p)
		lookAtBestAt(t, r, p, best, is)
		if is {
			offers, prefixes = append(offers, best), append(prefixes, p)
		}
	}
	lookAtBestRows(t, r, offers, prefixes...)
	for _, p := range more {
		best, is := m.best(r.Own, p)
		lookAtBestAt(t, r, p, best, is)
	}
	for peer := range mostPeers {
		lookAtHeard(t, r, peer, m.heard(peer)...)
	}
}

// lookAtTaken takes an update and holds the answer against the words and against BestAt.
func lookAtTaken(t *testing.T, r impl.Rib, peer int, u impl.Update, more ...impl.Prefix) (impl.Rib, []impl.Prefix, bool) {
	t.Helper()
	want, wantTold, taken := takeByWords(r, peer, u)
	if !taken {
		refusesTake(t, r, peer, u)
		return r, nil, false
	}
	lookAtTake(t, r, peer, u, want, wantTold...)
	got, told, _ := impl.TakeUpdate(r, peer, u)
	lookAtChanged(t, r, got, told, more...)
	return got, told, true
}

func lookAtDropped(t *testing.T, r impl.Rib, peer int, more ...impl.Prefix) {
	t.Helper()
	want, wantTold := dropByWords(r, peer)
	lookAtDropPeer(t, r, peer, want, wantTold...)
	got, told, _ := impl.DropPeer(r, peer)
	lookAtChanged(t, r, got, told, more...)
	lookAtHeard(t, got, peer)
}

// lookAtEitherOrder lets two peers tell in both orders; it tells whether both are taken.
func lookAtEitherOrder(t *testing.T, r impl.Rib, p int, u impl.Update, q int, v impl.Update) bool {
	t.Helper()
	takeBoth := func(p int, u impl.Update, q int, v impl.Update) (impl.Rib, bool) {
		first, _, ok := impl.TakeUpdate(r, p, u)
		if !ok {
			return impl.Rib{}, false
		}
		second, _, ok := impl.TakeUpdate(first, q, v)
		return second, ok
	}
	one, oneOk := takeBoth(p, u, q, v)
	other, otherOk := takeBoth(q, v, p, u)
	if oneOk && otherOk && !sameRib(one, other) {
		t.Errorf("%v: %d tells %v and %d tells %v: %v, the other way round %v", r, p, u, q, v, one, other)
	}
	return oneOk && otherOk
}

// fourAttrs are the better the later they stand, but for the last ones, which do not count for ownAsn; the first two are as good.
func fourAttrs() []impl.Attrs {
	return []impl.Attrs{
		{Pref: 100, Path: []int{3}},
		{Pref: 100, Path: []int{3}, Comms: []int{5}},
		{Pref: 200, Path: []int{3, 4}},
		{Pref: 300, Path: []int{3, ownAsn}},
	}
}

// twoPrefixes of which one has the other.
func twoPrefixes() []impl.Prefix {
	return []impl.Prefix{tenNet(8), tenNet(16)}
}

// eachSmallRib has all ribs of two prefixes and two peers.
func eachSmallRib(attrs []impl.Attrs, peers [2]int, look func(impl.Rib)) {
	states := 1 + len(attrs)
	for n := range states * states * states * states {
		m := heardModel{}
		for _, p := range twoPrefixes() {
			for _, peer := range peers {
				if state := n % states; state > 0 {
					m.tell(peer, impl.Update{Come: []impl.Prefix{p}, Attrs: attrs[state-1]})
				}
				n /= states
			}
		}
		look(m.rib(ownAsn))
	}
}

// smallUpdates has all updates of two prefixes.
func smallUpdates(attrs []impl.Attrs) []impl.Update {
	var l []impl.Update
	for n := range 9 {
		var u impl.Update
		for _, p := range twoPrefixes() {
			switch n % 3 {
			case 1:
				u.Gone = append(u.Gone, p)
			case 2:
				u.Come = append(u.Come, p)
			}
			n /= 3
		}
		if len(u.Come) == 0 {
			l = append(l, u)
			continue
		}
		for _, a := range attrs {
			u.Attrs = a
			l = append(l, u)
		}
	}
	return l
}

// manyPrefixes has prefixes of which some have others, in their order.
func manyPrefixes() []impl.Prefix {
	l := []impl.Prefix{{}, prefixAt(0, 32), prefixAt(lastAddr, 1), prefixAt(lastAddr, 32), prefixAt(lastAddr, 31)}
	for _, length := range []int{1, 7, 8, 9, 16, 17, 24, 31, 32} {
		l = append(l, tenNet(length))
	}
	for i := range 12 {
		l = append(l, prefixAt(11<<24+i<<16, 16))
	}
	slices.SortFunc(l, comparePrefixes)
	return slices.Compact(l)
}

// fewAttrs has few values, so that many offers are as good, and some do not count.
func fewAttrs(r *rand.Rand) impl.Attrs {
	if r.Intn(12) == 0 {
		return mixedAttrs(r)
	}
	a := impl.Attrs{Pref: 100 + r.Intn(2), Origin: r.Intn(2), Med: r.Intn(2), Next: r.Intn(2)}
	for range r.Intn(4) {
		a.Path = append(a.Path, []int{3, 4, 5, 3, 4, ownAsn}[r.Intn(6)])
	}
	if r.Intn(3) == 0 {
		a.Comms = []int{r.Intn(2), 2 + r.Intn(2)}
	}
	return a
}

// updateAmong deals some of these prefixes, which rise, out to those that go and those that come.
func updateAmong(pool []impl.Prefix, r *rand.Rand) impl.Update {
	var u impl.Update
	going, coming := r.Intn(5), r.Intn(5)
	for _, p := range pool {
		n := r.Intn(12)
		if n < going && len(u.Gone) < mostNlri {
			u.Gone = append(u.Gone, p)
		} else if n >= going && n < going+coming && len(u.Come) < mostNlri {
			u.Come = append(u.Come, p)
		}
	}
	if len(u.Come) > 0 {
		u.Attrs = fewAttrs(r)
	}
	return u
}

// mixedPool has the prefixes of one play: of some plays so many that there are too many rows at times.
func mixedPool(r *rand.Rand) []impl.Prefix {
	l := manyPrefixes()
	r.Shuffle(len(l), func(i, j int) { l[i], l[j] = l[j], l[i] })
	l = l[:[]int{1, 2, 3, 6, 20, 22, len(l)}[r.Intn(7)]]
	slices.SortFunc(l, comparePrefixes)
	return l
}

// mixedRib is made by hand: no function of the program tells it.
func mixedRib(pool []impl.Prefix, r *rand.Rand) impl.Rib {
	m := heardModel{}
	dense := 1 + r.Intn(9)
	for _, p := range pool {
		for peer := range mostPeers {
			if r.Intn(10) < dense && (len(m) < mostRows || m[p] != nil) {
				m.tell(peer, impl.Update{Come: []impl.Prefix{p}, Attrs: fewAttrs(r)})
			}
		}
	}
	return m.rib(ownAsn)
}

func ribRow(p impl.Prefix, offers ...impl.Offer) impl.Row {
	return impl.Row{Prefix: p, Offers: offers}
}

func ribWith(rows ...impl.Row) impl.Rib {
	return impl.Rib{Own: ownAsn, Rows: rows}
}

func offerBy(peer, pref int, path ...int) impl.Offer {
	return impl.Offer{Peer: peer, Attrs: impl.Attrs{Pref: pref, Path: path}}
}

// comes is an update that tells what the offer has.
func comes(o impl.Offer, l ...impl.Prefix) impl.Update {
	return impl.Update{Come: l, Attrs: o.Attrs}
}

func goes(l ...impl.Prefix) impl.Update {
	return impl.Update{Gone: l}
}

// rowsApart has so many rows with one offer each.
func rowsApart(many int, o impl.Offer) impl.Rib {
	r := ribWith()
	for _, p := range apart(0, many) {
		r.Rows = append(r.Rows, ribRow(p, o))
	}
	return r
}

// fullRib has as much of all as there may be.
func fullRib() impl.Rib {
	r := impl.Rib{Own: mostAsn}
	for _, p := range apart(lastAddr-100, mostRows) {
		r.Rows = append(r.Rows, ribRow(p, likeOffers(fullAttrs(), allPeers()...)...))
	}
	return r
}

func goodRibs() []impl.Rib {
	l := []impl.Rib{
		{Own: 1},
		{Own: mostAsn},
		{Own: ownAsn, Rows: []impl.Row{}},
		ribWith(ribRow(impl.Prefix{}, impl.Offer{})),
		ribWith(ribRow(tenNet(8), offerBy(5, 100, ownAsn)), ribRow(tenNet(16), offerBy(0, 100, 3))),
		rowsApart(mostRows, offerBy(3, 100, 3)),
		rowsApart(mostRows-1, offerBy(0, 0)),
		fullRib(),
	}
	for _, offers := range goodOffers() {
		if len(offers) > 0 {
			l = append(l, ribWith(ribRow(tenNet(24), offers...)))
		}
	}
	r := rand.New(rand.NewSource(130))
	for range 60 {
		l = append(l, mixedRib(mixedPool(r), r))
	}
	return l
}

// badRibs are not good, most of them by one fault alone.
func badRibs() map[string]impl.Rib {
	o := offerBy(2, 100, 3)
	all := map[string]impl.Rib{
		"zero":                       {},
		"one row more than may be":   rowsApart(mostRows+1, o),
		"far too many rows":          rowsApart(5000, o),
		"far too many empty rows":    {Own: ownAsn, Rows: make([]impl.Row, 100000)},
		"falling by Addr":            ribWith(ribRow(prefixAt(11<<24, 8), o), ribRow(prefixAt(10<<24, 8), o)),
		"falling by Len":             ribWith(ribRow(tenNet(9), o), ribRow(prefixAt(10<<24, 8), o)),
		"two of one prefix":          ribWith(ribRow(tenNet(8), o), ribRow(tenNet(8), o)),
		"two of one, other offers":   ribWith(ribRow(tenNet(8), offerBy(1, 100)), ribRow(tenNet(8), offerBy(2, 100))),
		"two of one at the end":      ribWith(ribRow(tenNet(7), o), ribRow(tenNet(8), o), ribRow(tenNet(8), o)),
		"the last one falls":         ribWith(ribRow(tenNet(8), o), ribRow(prefixAt(11<<24, 8), o), ribRow(tenNet(9), o)),
		"the first one is too great": ribWith(ribRow(prefixAt(lastAddr, 32), o), ribRow(tenNet(8), o), ribRow(tenNet(9), o)),
		"two of the zero prefix":     ribWith(ribRow(impl.Prefix{}, o), ribRow(impl.Prefix{}, o)),
		"a row without an offer":     ribWith(ribRow(tenNet(8))),
		"a row with an empty list":   ribWith(impl.Row{Prefix: tenNet(8), Offers: []impl.Offer{}}),
		"the first without an offer": ribWith(ribRow(tenNet(8)), ribRow(tenNet(9), o)),
		"the last without an offer":  ribWith(ribRow(tenNet(8), o), ribRow(tenNet(9))),
		"a zero row":                 ribWith(impl.Row{}),
	}
	for _, own := range append(badAsns(), mostAsn+1) {
		all[fmt.Sprintf("Own %d", own)] = impl.Rib{Own: own}
		all[fmt.Sprintf("Own %d, with a row", own)] = impl.Rib{Own: own, Rows: []impl.Row{ribRow(tenNet(8), o)}}
	}
	for i, p := range badPrefixes() {
		all[fmt.Sprintf("prefix %d alone: %v", i, p)] = ribWith(ribRow(p, o))
		all[fmt.Sprintf("prefix %d first: %v", i, p)] = ribWith(ribRow(p, o), ribRow(prefixAt(lastAddr, 32), o))
		all[fmt.Sprintf("prefix %d last: %v", i, p)] = ribWith(ribRow(impl.Prefix{}, o), ribRow(p, o))
	}
	for name, offers := range badOffers() {
		all["offers: "+name] = ribWith(ribRow(tenNet(8), offers...))
		all["offers of the last row: "+name] = ribWith(ribRow(tenNet(8), o), ribRow(tenNet(9), offers...))
	}
	return all
}

func TestTheLimitOfRowsIsAsSaid(t *testing.T) {
	if impl.MaxRows != mostRows {
		t.Error(impl.MaxRows)
	}
}

func TestNewRibHasNoRows(t *testing.T) {
	for _, own := range []int{1, 2, ownAsn, 300, mostAsn - 1, mostAsn} {
		r, ok := impl.NewRib(own)
		if !sameRib(r, impl.Rib{Own: own}) || !ok || !impl.GoodRib(r) {
			t.Errorf("NewRib(%d) = %v, %v", own, r, ok)
		}
		lookAtRib(t, r, manyPrefixes()...)
	}
	for _, own := range append(badAsns(), mostAsn+1) {
		if r, ok := impl.NewRib(own); !isZeroRib(r) || ok {
			t.Errorf("NewRib(%d) = %v, %v", own, r, ok)
		}
	}
}

func TestRibsAreGoodByTheirWords(t *testing.T) {
	for _, r := range goodRibs() {
		if !impl.GoodRib(r) {
			t.Errorf("%v is not good", r)
		}
	}
	for many := range mostRows + 3 {
		if got := impl.GoodRib(rowsApart(many, offerBy(1, 5, 3))); got != (many <= mostRows) {
			t.Errorf("with %d rows: %v", many, got)
		}
	}
	for name, r := range badRibs() {
		if impl.GoodRib(r) {
			t.Errorf("%s: is good", name)
		}
	}
}

// TestGoodRibOfAllSmallOrders has rows of all short orders of a few prefixes.
func TestGoodRibOfAllSmallOrders(t *testing.T) {
	pool := []impl.Prefix{{}, tenNet(8), tenNet(9), prefixAt(11<<24, 8), prefixAt(lastAddr, 32)}
	eachRow(pool, 4, func(l []impl.Prefix) {
		r := ribWith()
		want := true
		for i, p := range l {
			r.Rows = append(r.Rows, ribRow(p, offerBy(i, 100, 3)))
			want = want && (i == 0 || comparePrefixes(l[i-1], p) < 0)
		}
		if got := impl.GoodRib(r); got != want {
			t.Errorf("rows %v: %v", l, got)
		}
	})
}

func TestWhatIsAskedOfManyRibs(t *testing.T) {
	for _, r := range goodRibs() {
		lookAtRib(t, r, manyPrefixes()...)
	}
	eachSmallRib(fourAttrs(), [2]int{0, 5}, func(r impl.Rib) { lookAtRib(t, r, tenNet(12), impl.Prefix{}) })
}

// TestWhatIsToldIsWhereTheBestIsAnother goes through all small ribs and updates.
func TestWhatIsToldIsWhereTheBestIsAnother(t *testing.T) {
	updates := smallUpdates(fourAttrs())
	counts := map[string]int{}
	for _, peers := range [][2]int{{0, 1}, {5, 2}} {
		eachSmallRib(fourAttrs(), peers, func(r impl.Rib) {
			for _, peer := range append(peers[:], 3) {
				for _, u := range updates {
					now, told, _ := lookAtTaken(t, r, peer, u)
					counts[fmt.Sprint("told ", len(told))]++
					if sameRib(r, now) {
						counts["the same rib"]++
					} else if len(told) == 0 {
						counts["another rib, none told"]++
					}
				}
				lookAtDropped(t, r, peer)
			}
		})
	}
	for _, kind := range []string{"told 0", "told 1", "told 2", "the same rib", "another rib, none told"} {
		if counts[kind] < 500 {
			t.Error("not met:", kind, counts)
		}
	}
}

// TestWhatIsToldInManyPlays takes updates one after the other, so that ribs come of ribs.
func TestWhatIsToldInManyPlays(t *testing.T) {
	r := rand.New(rand.NewSource(131))
	taken, refusals, most := 0, 0, 0
	for range 300 {
		pool := mixedPool(r)
		rib := mixedRib(pool, r)
		for range 12 {
			peer := r.Intn(mostPeers)
			next, told, ok := lookAtTaken(t, rib, peer, updateAmong(pool, r), pool...)
			if ok {
				taken++
				most = max(most, len(told))
			} else {
				refusals++
			}
			lookAtDropped(t, rib, r.Intn(mostPeers), pool...)
			rib = next
		}
		lookAtRib(t, rib, pool...)
	}
	if taken < 2000 || refusals < 50 || most < 10 {
		t.Error(taken, refusals, most)
	}
}

func TestTwoPeersTellInEitherOrderInSmallRibs(t *testing.T) {
	attrs := fourAttrs()[1:]
	updates := smallUpdates(attrs)
	eachSmallRib(attrs, [2]int{1, 4}, func(r impl.Rib) {
		for _, u := range updates {
			for _, v := range updates {
				if !lookAtEitherOrder(t, r, 1, u, 4, v) {
					t.Fatalf("%v: %v or %v is refused", r, u, v)
				}
			}
		}
	})
}

func TestTwoPeersTellInEitherOrderInManyRibs(t *testing.T) {
	r := rand.New(rand.NewSource(132))
	both, notBoth := 0, 0
	for range 12000 {
		pool := mixedPool(r)
		rib := mixedRib(pool, r)
		peers := r.Perm(mostPeers)
		if lookAtEitherOrder(t, rib, peers[0], updateAmong(pool, r), peers[1], updateAmong(pool, r)) {
			both++
		} else {
			notBoth++
		}
	}
	if both < 8000 || notBoth < 300 {
		t.Error(both, notBoth)
	}
}

// TestManyPeersTellInAnyOrder keeps the order of what each one tells, and mixes who tells next.
func TestManyPeersTellInAnyOrder(t *testing.T) {
	r := rand.New(rand.NewSource(133))
	for range 300 {
		pool := manyPrefixes()[:mostRows] // so that nothing is refused
		queues := make([][]impl.Update, mostPeers)
		for range mostTaken {
			peer := r.Intn(mostPeers)
			queues[peer] = append(queues[peer], updateAmong(pool, r))
		}
		var want impl.Rib
		for turn := range 4 {
			var peers []int
			for peer, q := range queues {
				peers = append(peers, slices.Repeat([]int{peer}, len(q))...)
			}
			if turn > 0 {
				r.Shuffle(len(peers), func(i, j int) { peers[i], peers[j] = peers[j], peers[i] })
			}
			var l []impl.Update
			come := make([]int, mostPeers)
			for _, peer := range peers {
				l = append(l, queues[peer][come[peer]])
				come[peer]++
			}
			got, ok := impl.TakeAll(ownAsn, peers, l)
			if turn == 0 {
				want = got
			}
			if !ok || !sameRib(got, want) {
				t.Fatalf("TakeAll(%v, %v) = %v, %v, not %v", peers, l, got, ok, want)
			}
		}
	}
}

// TestHeardFromTellsWhatAPeerToldLast keeps what one peer told, whatever the others tell and lose.
func TestHeardFromTellsWhatAPeerToldLast(t *testing.T) {
	r := rand.New(rand.NewSource(134))
	for range 300 {
		pool := mixedPool(r)
		rib := impl.Rib{Own: ownAsn}
		last := make([]map[impl.Prefix]impl.Attrs, mostPeers)
		for peer := range last {
			last[peer] = map[impl.Prefix]impl.Attrs{}
		}
		for range 30 {
			peer := r.Intn(mostPeers)
			if r.Intn(8) == 0 {
				rib, _, _ = impl.DropPeer(rib, peer)
				clear(last[peer])
			} else {
				u := updateAmong(pool, r)
				next, _, ok := impl.TakeUpdate(rib, peer, u)
				if !ok {
					continue
				}
				rib = next
				for _, p := range u.Gone {
					delete(last[peer], p)
				}
				for _, p := range u.Come {
					last[peer][p] = u.Attrs
				}
			}
			for peer, told := range last {
				var want []impl.Route
				for _, p := range slices.SortedFunc(maps.Keys(told), comparePrefixes) {
					want = append(want, impl.Route{Prefix: p, Attrs: told[p]})
				}
				lookAtHeard(t, rib, peer, want...)
			}
		}
	}
}

func TestAPrefixThatGoes(t *testing.T) {
	p, q := tenNet(8), tenNet(16)
	one, two := offerBy(1, 100, 3), offerBy(2, 100, 3, 4)
	r := ribWith(ribRow(p, one, two), ribRow(q, one))
	lookAtTake(t, r, 1, goes(tenNet(9)), r)                                           // no row
	lookAtTake(t, r, 1, goes(prefixAt(9<<24, 8)), r)                                  // ahead of all
	lookAtTake(t, r, 1, goes(prefixAt(lastAddr, 32)), r)                              // behind all
	lookAtTake(t, r, 2, goes(q), r)                                                   // another peer's alone
	lookAtTake(t, r, 0, goes(p, q), r)                                                // of a peer that told nothing
	lookAtTake(t, r, 1, goes(p), ribWith(ribRow(p, two), ribRow(q, one)), p)          // the best one
	lookAtTake(t, r, 2, goes(p), ribWith(ribRow(p, one), ribRow(q, one)))             // not the best one
	lookAtTake(t, r, 1, goes(q), ribWith(ribRow(p, one, two)), q)                     // the last one of its row
	lookAtTake(t, r, 1, goes(p, q), ribWith(ribRow(p, two)), p, q)                    // both
	lookAtTake(t, r, 2, goes(p, q), ribWith(ribRow(p, one), ribRow(q, one)))          // one of both was never told
	lookAtTake(t, r, 1, goes(), r)                                                    // nothing
	lookAtTake(t, impl.Rib{Own: 1}, 1, goes(p, q), impl.Rib{Own: 1})                  // no rows
	lookAtTake(t, ribWith(ribRow(p, one)), 1, goes(p), ribWith(), p)                  // the last row
	lookAtTake(t, ribWith(ribRow(p, offerBy(1, 100, ownAsn))), 1, goes(p), ribWith()) // the last row, which did not count
	lookAtTake(t, ribWith(ribRow(p, one, offerBy(2, 900, ownAsn))), 2, goes(p), ribWith(ribRow(p, one)))
	lookAtTake(t, ribWith(ribRow(p, one, offerBy(2, 900, ownAsn))), 1, goes(p), ribWith(ribRow(p, offerBy(2, 900, ownAsn))), p)
}

func TestTheLastOfferTakesTheRowWhereverItStands(t *testing.T) {
	l := apart(10<<24, 5)
	for at, p := range l {
		r, want := ribWith(), ribWith()
		for i, q := range l {
			r.Rows = append(r.Rows, ribRow(q, offerBy(3, 100, 4)))
			if i != at {
				want.Rows = append(want.Rows, ribRow(q, offerBy(3, 100, 4)))
			}
		}
		lookAtTake(t, r, 3, goes(p), want, p)
		lookAtTake(t, r, 2, goes(p), r)
		lookAtTake(t, want, 3, comes(offerBy(3, 100, 4), p), r, p)
	}
}

func TestAPrefixThatComes(t *testing.T) {
	p, q := tenNet(8), tenNet(16)
	one, two := offerBy(1, 100, 3), offerBy(2, 100, 3)
	r := ribWith(ribRow(p, one), ribRow(q, one))
	ahead, between, behind := prefixAt(9<<24, 8), tenNet(9), prefixAt(11<<24, 8)
	lookAtTake(t, r, 2, comes(two, ahead), ribWith(ribRow(ahead, two), ribRow(p, one), ribRow(q, one)), ahead)
	lookAtTake(t, r, 2, comes(two, between), ribWith(ribRow(p, one), ribRow(between, two), ribRow(q, one)), between)
	lookAtTake(t, r, 2, comes(two, behind), ribWith(ribRow(p, one), ribRow(q, one), ribRow(behind, two)), behind)
	lookAtTake(t, r, 2, comes(two, ahead, between, behind),
		ribWith(ribRow(ahead, two), ribRow(p, one), ribRow(between, two), ribRow(q, one), ribRow(behind, two)), ahead, between, behind)
	lookAtTake(t, ribWith(), 2, comes(two, p), ribWith(ribRow(p, two)), p)
	lookAtTake(t, r, 2, comes(two, p), ribWith(ribRow(p, one, two), ribRow(q, one)))                   // as good, but of a greater peer
	lookAtTake(t, r, 0, comes(two, p), ribWith(ribRow(p, offerBy(0, 100, 3), one), ribRow(q, one)), p) // as good, of a lesser one
	better := offerBy(2, 101, 3)
	lookAtTake(t, r, 2, comes(better, p, q), ribWith(ribRow(p, one, better), ribRow(q, one, better)), p, q)
	lookAtTake(t, r, 2, comes(better, q), ribWith(ribRow(p, one), ribRow(q, one, better)), q)
}

func TestAPrefixThatComesAgain(t *testing.T) {
	p := tenNet(8)
	one, two := offerBy(1, 100, 3), offerBy(2, 90, 3)
	r := ribWith(ribRow(p, one, two))
	lookAtTake(t, r, 1, comes(one, p), r) // with the same Attrs
	lookAtTake(t, r, 2, comes(two, p), r)
	lookAtTake(t, r, 1, comes(offerBy(1, 100), p), ribWith(ribRow(p, offerBy(1, 100), two)), p) // another Path, still the best
	lookAtTake(t, r, 2, comes(offerBy(2, 95, 3), p), ribWith(ribRow(p, one, offerBy(2, 95, 3))))
	lookAtTake(t, r, 2, comes(offerBy(2, 101, 3), p), ribWith(ribRow(p, one, offerBy(2, 101, 3))), p)
	lookAtTake(t, r, 1, comes(offerBy(1, 80, 3), p), ribWith(ribRow(p, offerBy(1, 80, 3), two)), p)
	empty := impl.Attrs{Path: []int{}, Comms: []int{}}
	lookAtTake(t, ribWith(ribRow(p, impl.Offer{})), 0, impl.Update{Come: []impl.Prefix{p}, Attrs: empty}, ribWith(ribRow(p, impl.Offer{})))
}

// TestABestThatChangesInItsAttrsAlone changes each field, also those that the order does not look at.
func TestABestThatChangesInItsAttrsAlone(t *testing.T) {
	p := tenNet(8)
	was := plainAttrs() // Path 300 7
	other := impl.Offer{Peer: 4, Attrs: impl.Attrs{Pref: 1}}
	changes := map[string]func(a *impl.Attrs){
		"Origin":            func(a *impl.Attrs) { a.Origin = 2 },
		"Next":              func(a *impl.Attrs) { a.Next++ },
		"Med":               func(a *impl.Attrs) { a.Med-- },
		"Pref":              func(a *impl.Attrs) { a.Pref++ },
		"Path, longer":      func(a *impl.Attrs) { a.Path = []int{300, 7, 7} },
		"Path, shorter":     func(a *impl.Attrs) { a.Path = []int{300} },
		"Path, none":        func(a *impl.Attrs) { a.Path = nil },
		"Path, as long":     func(a *impl.Attrs) { a.Path = []int{300, 8} },
		"Path, turned":      func(a *impl.Attrs) { a.Path = []int{7, 300} },
		"Comms, as many":    func(a *impl.Attrs) { a.Comms = []int{9, 70001} },
		"Comms, fewer":      func(a *impl.Attrs) { a.Comms = []int{9} },
		"Comms, more":       func(a *impl.Attrs) { a.Comms = []int{8, 9, 70000} },
		"Comms, none":       func(a *impl.Attrs) { a.Comms = nil },
		"all of it changes": func(a *impl.Attrs) { *a = fullAttrs() },
	}
	for name, change := range changes {
		a := plainAttrs()
		change(&a)
		t.Run(name, func(t *testing.T) {
			for _, others := range [][]impl.Offer{nil, {other}} {
				r := impl.Rib{Own: 9, Rows: []impl.Row{ribRow(p, append([]impl.Offer{{Peer: 3, Attrs: was}}, others...)...)}}
				want := impl.Rib{Own: 9, Rows: []impl.Row{ribRow(p, append([]impl.Offer{{Peer: 3, Attrs: a}}, others...)...)}}
				lookAtTake(t, r, 3, impl.Update{Come: []impl.Prefix{p}, Attrs: a}, want, p)
				lookAtTake(t, want, 3, impl.Update{Come: []impl.Prefix{p}, Attrs: was}, r, p)
			}
		})
	}
}

// TestOffersThatComeByOwnAreKeptAndDoNotCount has Own at each place of the Path.
func TestOffersThatComeByOwnAreKeptAndDoNotCount(t *testing.T) {
	p := tenNet(8)
	one := offerBy(1, 100, 3, 4, 5)
	for _, path := range [][]int{{ownAsn}, {ownAsn, 3}, {3, ownAsn}, {3, ownAsn, 4}, {ownAsn, ownAsn}, {1, 2, 3, 4, 5, 6, 8, 9, 10, ownAsn}} {
		round := offerBy(2, 900, path...)
		lookAtTake(t, ribWith(), 2, comes(round, p), ribWith(ribRow(p, round)))
		lookAtTake(t, ribWith(ribRow(p, one)), 2, comes(round, p), ribWith(ribRow(p, one, round)))
		lookAtTake(t, ribWith(ribRow(p, one, offerBy(2, 200, 3))), 2, comes(round, p), ribWith(ribRow(p, one, round)), p)
		lookAtTake(t, ribWith(ribRow(p, offerBy(2, 200, 3))), 2, comes(round, p), ribWith(ribRow(p, round)), p)
		lookAtTake(t, ribWith(ribRow(p, round)), 1, comes(one, p), ribWith(ribRow(p, one, round)), p)
		lookAtTake(t, ribWith(ribRow(p, round)), 2, comes(offerBy(2, 1, ownAsn, 9), p), ribWith(ribRow(p, offerBy(2, 1, ownAsn, 9))))
		lookAtRib(t, ribWith(ribRow(p, one, round)))
		other := impl.Rib{Own: 8888, Rows: []impl.Row{ribRow(p, one)}} // for another Own it counts
		lookAtTake(t, other, 2, comes(round, p), impl.Rib{Own: 8888, Rows: []impl.Row{ribRow(p, one, round)}}, p)
	}
}

// TestAnOfferOfNoughtsIsOne: that there is a best one is told by more than what it has.
func TestAnOfferOfNoughtsIsOne(t *testing.T) {
	p := impl.Prefix{}
	r := ribWith(ribRow(p, impl.Offer{}))
	lookAtTake(t, ribWith(), 0, comes(impl.Offer{}, p), r, p)
	lookAtTake(t, r, 0, comes(impl.Offer{}, p), r)
	lookAtTake(t, r, 0, goes(p), ribWith(), p)
	lookAtTake(t, r, 0, comes(offerBy(0, 0, ownAsn), p), ribWith(ribRow(p, offerBy(0, 0, ownAsn))), p)
	lookAtTake(t, ribWith(ribRow(p, offerBy(0, 0, ownAsn))), 0, comes(impl.Offer{}, p), r, p)
	lookAtDropPeer(t, r, 0, ribWith(), p)
	lookAtBestAt(t, r, p, impl.Offer{}, true)
	lookAtBestRows(t, r, []impl.Offer{{}}, p)
	lookAtHeard(t, r, 0, impl.Route{})
}

func TestAnUpdateInWhichSomeGoAndSomeCome(t *testing.T) {
	l := apart(10<<24, 6)
	one, two := offerBy(1, 100, 3), offerBy(2, 50, 3)
	r := ribWith(ribRow(l[1], one), ribRow(l[2], one, two), ribRow(l[4], two))
	u := impl.Update{Gone: []impl.Prefix{l[1], l[2], l[5]}, Attrs: one.Attrs, Come: []impl.Prefix{l[0], l[3], l[4]}}
	want := ribWith(ribRow(l[0], one), ribRow(l[2], two), ribRow(l[3], one), ribRow(l[4], one, two))
	lookAtTake(t, r, 1, u, want, l[0], l[1], l[2], l[3], l[4])
	back := impl.Update{Gone: []impl.Prefix{l[0], l[3], l[4]}, Attrs: one.Attrs, Come: []impl.Prefix{l[1], l[2]}}
	lookAtTake(t, want, 1, back, r, l[0], l[1], l[2], l[3], l[4])
}

func TestPeersAtTheirBounds(t *testing.T) {
	p := tenNet(8)
	for _, peer := range allPeers() {
		o := offerBy(peer, 100, 3)
		r := ribWith(ribRow(p, o))
		lookAtTake(t, ribWith(), peer, comes(o, p), r, p)
		lookAtTake(t, r, peer, goes(p), ribWith(), p)
		lookAtDropPeer(t, r, peer, ribWith(), p)
		lookAtHeard(t, r, peer, impl.Route{Prefix: p, Attrs: o.Attrs})
	}
	for _, r := range []impl.Rib{{Own: 1}, ribWith(ribRow(p, offerBy(0, 100, 3))), fullRib()} {
		for _, peer := range badPeers() {
			for _, u := range []impl.Update{{}, goes(p), comes(offerBy(0, 100, 3), p)} {
				refusesTake(t, r, peer, u)
			}
			if got, told, ok := impl.DropPeer(r, peer); !isZeroRib(got) || len(told) != 0 || ok {
				t.Errorf("DropPeer(%v, %d) = %v, %v, %v", r, peer, got, told, ok)
			}
			if got, ok := impl.HeardFrom(r, peer); len(got) != 0 || ok {
				t.Errorf("HeardFrom(%v, %d) = %v, %v", r, peer, got, ok)
			}
		}
	}
}

func TestUpdatesThatAreNotGoodAreNotTaken(t *testing.T) {
	ribs := []impl.Rib{{Own: 1}, ribWith(ribRow(prefixAt(10<<24, 8), offerBy(0, 100, 3))), fullRib()}
	for i, u := range badUpdates() {
		for _, r := range ribs {
			refusesTake(t, r, i%mostPeers, u)
		}
		refusesTakeAll(t, "an update that is not good", ownAsn, []int{i % mostPeers}, []impl.Update{u})
	}
}

func TestEachGoodUpdateIsTaken(t *testing.T) {
	for i, u := range goodUpdates() {
		peer := i % mostPeers
		now, _, ok := lookAtTaken(t, ribWith(), peer, u)
		if !ok {
			t.Errorf("%v is not taken", u)
		}
		lookAtRib(t, now)
		lookAtTake(t, now, peer, impl.Update{Gone: u.Gone, Attrs: u.Attrs, Come: u.Come}, now) // the same again
		lookAtTaken(t, now, (peer+1)%mostPeers, u)
		lookAtTaken(t, fullRib(), peer, u)
		lookAtTake(t, now, peer, goes(u.Come...), ribWith(), bestPrefixes(now)...)
	}
}

func bestPrefixes(r impl.Rib) []impl.Prefix {
	_, l, _ := impl.BestRows(r)
	return l
}

func TestAsManyRowsAsThereMayBeAndOneMore(t *testing.T) {
	o, other := offerBy(1, 100, 3), offerBy(2, 100, 3)
	far := apart(1<<20, mostNlri)
	for many := range mostRows + 1 {
		r := rowsApart(many, o)
		for come := range mostNlri + 1 {
			u := impl.Update{Come: far[:come]}
			if come > 0 {
				u.Attrs = other.Attrs
			}
			if many+come > mostRows {
				refusesTake(t, r, 2, u)
				continue
			}
			want := rowsApart(many, o)
			for _, p := range far[:come] {
				want.Rows = append(want.Rows, ribRow(p, other))
			}
			lookAtTake(t, r, 2, u, want, far[:come]...)
		}
	}
}

// TestAFullRibTakesWhatMakesRoom: how many rows there are is asked once some went and some came, and a row goes with its last offer alone.
func TestAFullRibTakesWhatMakesRoom(t *testing.T) {
	o := offerBy(1, 100, 3)
	full := rowsApart(mostRows, o)
	near, far := apart(0, mostRows), apart(1<<20, mostNlri)
	for many := range mostNlri + 1 {
		u := impl.Update{Gone: near[:many], Come: far[:many]}
		if many > 0 {
			u.Attrs = o.Attrs
		}
		want := ribWith(full.Rows[many:]...)
		for _, p := range far[:many] {
			want.Rows = append(slices.Clone(want.Rows), ribRow(p, o))
		}
		lookAtTake(t, full, 1, u, want, slices.Concat(near[:many], far[:many])...)
		if many == 0 {
			continue
		}
		refusesTake(t, full, 2, u)                                                                 // they were never told by it
		refusesTake(t, full, 1, impl.Update{Gone: near[1:many], Attrs: o.Attrs, Come: far[:many]}) // one fewer goes
		unheard := slices.Clone(near[:many])
		unheard[many-1] = prefixAt(1<<24, 8)
		refusesTake(t, full, 1, impl.Update{Gone: unheard, Attrs: o.Attrs, Come: far[:many]}) // one of them has no row
	}
	two := rowsApart(mostRows, o)
	for i := range two.Rows {
		two.Rows[i].Offers = []impl.Offer{o, offerBy(2, 90, 4)}
	}
	refusesTake(t, two, 1, impl.Update{Gone: near[:1], Attrs: o.Attrs, Come: far[:1]}) // the row stays
	lookAtTaken(t, two, 1, impl.Update{Gone: near[:10], Attrs: offerBy(1, 5, 6).Attrs, Come: near[10:]})
	lookAtTaken(t, full, 2, comes(offerBy(2, 900, 3), near[:10]...))
	lookAtTaken(t, full, 2, goes(far...))
	refusesTake(t, full, 1, comes(o, prefixAt(lastAddr, 32)))
	refusesTake(t, full, 1, comes(o, near[0], far[0]))
	refusesTake(t, full, 5, comes(offerBy(5, 1, ownAsn), far[0])) // one that does not count takes a row too
}

func TestDropPeer(t *testing.T) {
	l := apart(10<<24, 5)
	one, two, round := offerBy(1, 100, 3), offerBy(2, 90, 4), offerBy(3, 900, ownAsn)
	r := ribWith(ribRow(l[0], one), ribRow(l[1], one, two), ribRow(l[2], two), ribRow(l[3], one, round), ribRow(l[4], round))
	lookAtDropPeer(t, r, 0, r) // told nothing
	lookAtDropPeer(t, r, 5, r)
	lookAtDropPeer(t, r, 1, ribWith(ribRow(l[1], two), ribRow(l[2], two), ribRow(l[3], round), ribRow(l[4], round)), l[0], l[1], l[3])
	lookAtDropPeer(t, r, 2, ribWith(ribRow(l[0], one), ribRow(l[1], one), ribRow(l[3], one, round), ribRow(l[4], round)), l[2])
	lookAtDropPeer(t, r, 3, ribWith(ribRow(l[0], one), ribRow(l[1], one, two), ribRow(l[2], two), ribRow(l[3], one))) // none counted
	for peer := range mostPeers {
		lookAtDropPeer(t, impl.Rib{Own: 1}, peer, impl.Rib{Own: 1})
		all := rowsApart(mostRows, offerBy(peer, 100, 3)) // more than an update has room for
		lookAtDropPeer(t, all, peer, ribWith(), apart(0, mostRows)...)
		lookAtDropPeer(t, all, (peer+1)%mostPeers, all)
		lookAtDropped(t, fullRib(), peer)
	}
	for _, r := range goodRibs() {
		for peer := range mostPeers {
			lookAtDropped(t, r, peer)
		}
	}
}

// TestPeersThatAreDroppedOneAfterTheOther: all are gone in the end, whoever goes first.
func TestPeersThatAreDroppedOneAfterTheOther(t *testing.T) {
	r := rand.New(rand.NewSource(135))
	for _, rib := range goodRibs() {
		for _, peer := range r.Perm(mostPeers) {
			lookAtDropped(t, rib, peer)
			rib, _, _ = impl.DropPeer(rib, peer)
		}
		if len(rib.Rows) != 0 || !impl.GoodRib(rib) {
			t.Error(rib)
		}
	}
}

func TestBestAtAndBestRows(t *testing.T) {
	l := apart(10<<24, 5)
	one, two, round := offerBy(1, 100, 3), offerBy(2, 900, 4, 5), offerBy(3, 1000, 3, ownAsn)
	r := ribWith(ribRow(l[0], one), ribRow(l[1], one, two, round), ribRow(l[2], round, offerBy(5, 1, ownAsn)), ribRow(l[3], round), ribRow(l[4], two, round))
	lookAtBestAt(t, r, l[0], one, true)
	lookAtBestAt(t, r, l[1], two, true)
	lookAtBestAt(t, r, l[2], impl.Offer{}, false)
	lookAtBestAt(t, r, l[3], impl.Offer{}, false)
	lookAtBestAt(t, r, l[4], two, true)
	lookAtBestAt(t, r, tenNet(9), impl.Offer{}, false)
	lookAtBestAt(t, r, impl.Prefix{}, impl.Offer{}, false)
	lookAtBestAt(t, r, prefixAt(l[0].Addr, 31), impl.Offer{}, false) // has rows, and is none
	lookAtBestAt(t, ribWith(ribRow(tenNet(8), one)), tenNet(16), impl.Offer{}, false)
	lookAtBestAt(t, impl.Rib{Own: 1}, impl.Prefix{}, impl.Offer{}, false)
	lookAtBestRows(t, r, []impl.Offer{one, two, two}, l[0], l[1], l[4])
	lookAtBestRows(t, ribWith(ribRow(l[2], round), ribRow(l[3], round)), nil)
	lookAtBestRows(t, impl.Rib{Own: mostAsn}, nil)
	for _, p := range badPrefixes() {
		for _, r := range []impl.Rib{r, {Own: 1}, fullRib()} {
			lookAtBestAt(t, r, p, impl.Offer{}, false)
		}
	}
}

func TestTheBestOfARowIsBestOfferOfThoseThatCount(t *testing.T) {
	for _, offers := range goodOffers() {
		if len(offers) == 0 {
			continue
		}
		for _, own := range []int{1, 3, 4, 5, ownAsn, 300, mostAsn} {
			counting := slices.DeleteFunc(slices.Clone(offers), func(o impl.Offer) bool { return slices.Contains(o.Attrs.Path, own) })
			peer, is := impl.BestOffer(counting)
			want := impl.Offer{}
			if is {
				want = counting[slices.IndexFunc(counting, func(o impl.Offer) bool { return o.Peer == peer })]
			}
			lookAtBestAt(t, impl.Rib{Own: own, Rows: []impl.Row{ribRow(tenNet(8), offers...)}}, tenNet(8), want, is)
		}
	}
}

func TestHeardFrom(t *testing.T) {
	l := apart(10<<24, 3)
	one, two, round := offerBy(1, 100, 3), offerBy(2, 900, 4, 5), offerBy(3, 1000, 3, ownAsn)
	r := ribWith(ribRow(l[0], one, round), ribRow(l[1], one, two), ribRow(l[2], round))
	lookAtHeard(t, r, 0)
	lookAtHeard(t, r, 5)
	lookAtHeard(t, r, 1, impl.Route{Prefix: l[0], Attrs: one.Attrs}, impl.Route{Prefix: l[1], Attrs: one.Attrs})
	lookAtHeard(t, r, 2, impl.Route{Prefix: l[1], Attrs: two.Attrs})
	lookAtHeard(t, r, 3, impl.Route{Prefix: l[0], Attrs: round.Attrs}, impl.Route{Prefix: l[2], Attrs: round.Attrs}) // they do not count
	lookAtHeard(t, impl.Rib{Own: 1}, 1)
	var all []impl.Route
	for _, p := range apart(lastAddr-100, mostRows) {
		all = append(all, impl.Route{Prefix: p, Attrs: fullAttrs()})
	}
	for peer := range mostPeers {
		lookAtHeard(t, fullRib(), peer, all...)
	}
}

func TestTakeAll(t *testing.T) {
	p, q := tenNet(8), tenNet(16)
	one, two := offerBy(1, 100, 3), offerBy(2, 90, 4)
	for _, own := range []int{1, ownAsn, mostAsn} {
		lookAtTakeAll(t, own, nil, nil, impl.Rib{Own: own})
		lookAtTakeAll(t, own, []int{}, []impl.Update{}, impl.Rib{Own: own})
		lookAtTakeAll(t, own, []int{5}, []impl.Update{{}}, impl.Rib{Own: own})
	}
	lookAtTakeAll(t, ownAsn, []int{1}, []impl.Update{comes(one, p, q)}, ribWith(ribRow(p, one), ribRow(q, one)))
	lookAtTakeAll(t, ownAsn, []int{1, 2}, []impl.Update{comes(one, p), comes(two, p, q)}, ribWith(ribRow(p, one, two), ribRow(q, two)))
	lookAtTakeAll(t, ownAsn, []int{1, 2, 1}, []impl.Update{comes(one, p), comes(two, p, q), goes(p)}, ribWith(ribRow(p, two), ribRow(q, two)))
	lookAtTakeAll(t, ownAsn, []int{1, 1}, []impl.Update{comes(one, p), goes(p)}, ribWith())
	lookAtTakeAll(t, ownAsn, []int{1, 1}, []impl.Update{goes(p), comes(one, p)}, ribWith(ribRow(p, one)))
	lookAtTakeAll(t, ownAsn, []int{2, 2}, []impl.Update{comes(one, p), comes(two, p)}, ribWith(ribRow(p, two)))
	for _, own := range append(badAsns(), mostAsn+1) {
		refusesTakeAll(t, "Own", own, nil, nil)
		refusesTakeAll(t, "Own", own, []int{1}, []impl.Update{comes(one, p)})
	}
}

func TestTakeAllOf40UpdatesAndOneMore(t *testing.T) {
	one := offerBy(1, 100, 3)
	l := slices.Repeat([]impl.Update{comes(one, tenNet(8)), {}, goes(tenNet(8)), comes(one, tenNet(9))}, 10)
	peers := slices.Repeat([]int{1}, mostTaken)
	want := ribWith(ribRow(tenNet(9), one))
	lookAtTakeAll(t, ownAsn, peers, l, want)
	for many := range mostTaken + 1 {
		r := ribWith()
		for i := range many {
			r, _, _ = lookAtTaken(t, r, peers[i], l[i])
		}
		lookAtTakeAll(t, ownAsn, peers[:many], l[:many], r)
		if many > 0 {
			refusesTakeAll(t, "one peer fewer", ownAsn, peers[:many-1], l[:many])
			refusesTakeAll(t, "one peer more", ownAsn, peers[:many], l[:many-1])
			refusesTakeAll(t, "no peer", ownAsn, nil, l[:many])
			refusesTakeAll(t, "no update", ownAsn, peers[:many], nil)
		}
	}
	for _, u := range []impl.Update{{}, l[0], goes(tenNet(9))} {
		refusesTakeAll(t, "41", ownAsn, append(slices.Clone(peers), 1), append(slices.Clone(l), u))
	}
	refusesTakeAll(t, "41 peers", ownAsn, append(slices.Clone(peers), 1), l)
	refusesTakeAll(t, "41 updates", ownAsn, peers, append(slices.Clone(l), impl.Update{}))
	refusesTakeAll(t, "41 that do nothing", ownAsn, make([]int, 41), make([]impl.Update, 41))
	refusesTakeAll(t, "far too many", ownAsn, make([]int, 100000), make([]impl.Update, 100000))
	lookAtTakeAll(t, ownAsn, make([]int, 40), make([]impl.Update, 40), ribWith())
}

// TestTakeAllWithOneThatIsRefused has it at each place, also where all would be as said again behind it.
func TestTakeAllWithOneThatIsRefused(t *testing.T) {
	one := offerBy(1, 100, 3)
	good := []impl.Update{comes(one, tenNet(8)), goes(tenNet(8)), comes(one, tenNet(9)), {}}
	peers := []int{1, 2, 0, 5}
	bad := []impl.Update{badUpdates()[0], {Attrs: one.Attrs}, goes(tenNet(9), tenNet(8)), {Gone: apart(0, 11)}}
	for at := range len(good) + 1 {
		for _, u := range bad {
			refusesTakeAll(t, "not good", ownAsn, slices.Insert(slices.Clone(peers), at, 3), slices.Insert(slices.Clone(good), at, u))
		}
		for _, peer := range badPeers() {
			refusesTakeAll(t, "a peer", ownAsn, slices.Insert(slices.Clone(peers), at, peer), slices.Insert(slices.Clone(good), at, impl.Update{}))
		}
	}
	l := apart(0, 30)
	grown := []impl.Update{comes(one, l[:10]...), comes(one, l[10:20]...)}
	lookAtTakeAll(t, ownAsn, []int{1, 1}, grown, rowsApart(mostRows, one))
	refusesTakeAll(t, "too many rows", ownAsn, []int{1, 1, 1}, append(slices.Clone(grown), comes(one, l[20])))
	refusesTakeAll(t, "too many rows, then fewer", ownAsn, []int{1, 1, 1, 1}, append(slices.Clone(grown), comes(one, l[20]), goes(l[:10]...)))
	want := rowsApart(mostRows, one)
	want.Rows = append(want.Rows[10:], ribRow(l[20], one))
	lookAtTakeAll(t, ownAsn, []int{1, 1, 1, 1}, append(slices.Clone(grown), goes(l[:10]...), comes(one, l[20])), want)
}

func TestTakeAllIsTakeUpdateEach(t *testing.T) {
	r := rand.New(rand.NewSource(136))
	refusals := 0
	for range 500 {
		pool := mixedPool(r)
		want, wantOk := impl.Rib{Own: ownAsn}, true
		var peers []int
		var l []impl.Update
		for range r.Intn(mostTaken + 1) {
			peers, l = append(peers, r.Intn(mostPeers)), append(l, updateAmong(pool, r))
			if wantOk {
				want, _, wantOk = takeByWords(want, peers[len(peers)-1], l[len(l)-1])
			}
		}
		if wantOk {
			lookAtTakeAll(t, ownAsn, peers, l, want)
		} else {
			refusals++
			refusesTakeAll(t, "too many rows", ownAsn, peers, l)
		}
	}
	if refusals < 10 || refusals > 400 {
		t.Error(refusals)
	}
}

func TestRibsThatAreNotGoodAreRefused(t *testing.T) {
	updates := []impl.Update{{}, goes(tenNet(8)), comes(offerBy(0, 100, 3), tenNet(8)), badUpdates()[0]}
	for name, r := range badRibs() {
		for _, peer := range []int{-1, 0, 2, 5, mostPeers} {
			for _, u := range updates {
				if got, told, ok := impl.TakeUpdate(r, peer, u); !isZeroRib(got) || len(told) != 0 || ok {
					t.Errorf("%s: TakeUpdate of %d: %v, %v, %v", name, peer, got, told, ok)
				}
			}
			if got, told, ok := impl.DropPeer(r, peer); !isZeroRib(got) || len(told) != 0 || ok {
				t.Errorf("%s: DropPeer of %d: %v, %v, %v", name, peer, got, told, ok)
			}
			if got, ok := impl.HeardFrom(r, peer); len(got) != 0 || ok {
				t.Errorf("%s: HeardFrom %d: %v, %v", name, peer, got, ok)
			}
		}
		if offers, prefixes, ok := impl.BestRows(r); len(offers) != 0 || len(prefixes) != 0 || ok {
			t.Errorf("%s: BestRows: %v, %v, %v", name, offers, prefixes, ok)
		}
		for _, p := range []impl.Prefix{{}, tenNet(8), tenNet(9), prefixAt(lastAddr, 32), badPrefixes()[0]} {
			if got, ok := impl.BestAt(r, p); !sameOffer(got, impl.Offer{}) || ok {
				t.Errorf("%s: BestAt %v: %v, %v", name, p, got, ok)
			}
		}
	}
}

// TestAFaultOfAnotherRowIsRefusedToo: what is asked of one row asks for a good rib all the same.
func TestAFaultOfAnotherRowIsRefusedToo(t *testing.T) {
	good := ribRow(tenNet(8), offerBy(1, 100, 3))
	for _, bad := range []impl.Row{ribRow(tenNet(9)), ribRow(tenNet(7), offerBy(1, 100)), ribRow(tenNet(9), offerBy(6, 100)), ribRow(tenNet(9), offerBy(1, -1))} {
		r := ribWith(good, bad)
		lookAtBestAt(t, r, tenNet(8), impl.Offer{}, false)
		refusesTake(t, r, 1, impl.Update{})
		refusesTake(t, r, 1, goes(tenNet(8)))
		refusesTake(t, r, 1, goes(bad.Prefix))
	}
}

// memoryList is one list of an answer, which takes a mark in all its memory, also behind its length, and tells whether it still has it.
type memoryList struct {
	name   string
	mark   func(n int)
	marked func(n int) bool
}

func listOf[E any](name string, l []E, with func(n int) E, same func(a, b E) bool) memoryList {
	return memoryList{
		name: name,
		mark: func(n int) { overwrite(l, with(n)) },
		marked: func(n int) bool {
			return !slices.ContainsFunc(l[:cap(l)], func(e E) bool { return !same(e, with(n)) })
		},
	}
}

func markedNumber(n int) int {
	return -1000 - n
}

func markedPrefix(n int) impl.Prefix {
	return impl.Prefix{Addr: markedNumber(n), Len: -9}
}

func prefixesList(name string, l []impl.Prefix) memoryList {
	return listOf(name, l, markedPrefix, func(p, q impl.Prefix) bool { return p == q })
}

func attrsLists(name string, a impl.Attrs) []memoryList {
	same := func(n, m int) bool { return n == m }
	return []memoryList{listOf(name+" Path", a.Path, markedNumber, same), listOf(name+" Comms", a.Comms, markedNumber, same)}
}

func offersLists(name string, l []impl.Offer) []memoryList {
	all := []memoryList{listOf(name, l, func(n int) impl.Offer { return impl.Offer{Peer: markedNumber(n)} }, sameOffer)}
	for i, o := range l {
		all = append(all, attrsLists(fmt.Sprint(name, " ", i), o.Attrs)...)
	}
	return all
}

func routesLists(name string, l []impl.Route) []memoryList {
	all := []memoryList{listOf(name, l, func(n int) impl.Route { return impl.Route{Prefix: markedPrefix(n)} }, sameRoute)}
	for i, r := range l {
		all = append(all, attrsLists(fmt.Sprint(name, " ", i), r.Attrs)...)
	}
	return all
}

func ribLists(name string, r impl.Rib) []memoryList {
	all := []memoryList{listOf(name, r.Rows, func(n int) impl.Row { return impl.Row{Prefix: markedPrefix(n)} }, sameRow)}
	for i, row := range r.Rows {
		all = append(all, offersLists(fmt.Sprint(name, " row ", i), row.Offers)...)
	}
	return all
}

// lookAtLists writes into all lists of an answer, into each one another mark, and looks whether each has its own then: none shares memory with another one.
func lookAtLists(t *testing.T, name string, answer []memoryList) {
	t.Helper()
	for i, l := range answer {
		l.mark(i)
	}
	for i, l := range answer {
		if !l.marked(i) {
			t.Fatalf("%s: %s shares memory with another list", name, l.name)
		}
	}
}

var behindRow = impl.Row{Prefix: behindPrefix}

// ribWithBehind puts rows behind the rib's that are not good, or such as would be.
func ribWithBehind(r impl.Rib, behind impl.Row) impl.Rib {
	own := impl.Rib{Own: r.Own}
	for _, row := range r.Rows {
		own.Rows = append(own.Rows, impl.Row{Prefix: row.Prefix, Offers: offersWithBehind(row.Offers)})
	}
	own.Rows = withBehind(own.Rows, behind)
	return own
}

func wholeRib(r impl.Rib) impl.Rib {
	own := impl.Rib{Own: r.Own, Rows: whole(r.Rows)}
	for i, row := range own.Rows {
		own.Rows[i].Offers = wholeOffers(row.Offers)
	}
	return own
}

func handsOutRibBehind(r impl.Rib) bool {
	for _, row := range whole(r.Rows) {
		if row.Prefix == behindPrefix || handsOutOffersBehind(row.Offers) {
			return true
		}
	}
	return false
}

// lookAtRibMemory hands all in with memory behind it, holds what is answered against what is answered without it, writes into all of it, and looks at the arguments again.
func lookAtRibMemory(t *testing.T, r impl.Rib, peer int, u impl.Update, p impl.Prefix, behind impl.Row) {
	t.Helper()
	given, givenU := ribWithBehind(r, behind), updateWithBehind(u)
	kept, keptU := wholeRib(given), wholeUpdate(givenU)
	unchanged := func(name string) {
		t.Helper()
		if !sameRib(wholeRib(given), kept) || !sameUpdate(wholeUpdate(givenU), keptU) {
			t.Fatalf("%s: %v, %v became %v, %v", name, kept, keptU, wholeRib(given), wholeUpdate(givenU))
		}
	}
	if impl.GoodRib(given) != impl.GoodRib(r) {
		t.Errorf("GoodRib(%v): what lies behind is read", r)
	}
	unchanged("GoodRib")
	now, told, ok := impl.TakeUpdate(given, peer, givenU)
	wantNow, wantTold, wantOk := impl.TakeUpdate(r, peer, u)
	if !sameRib(now, wantNow) || !slices.Equal(told, wantTold) || ok != wantOk || handsOutRibBehind(now) || slices.Contains(whole(told), behindPrefix) {
		t.Errorf("TakeUpdate(%v, %d, %v) = %v, %v, %v", r, peer, u, wholeRib(now), whole(told), ok)
	}
	lookAtLists(t, "TakeUpdate", append(ribLists("the answer", now), prefixesList("told", told)))
	unchanged("TakeUpdate")
	left, lost, ok := impl.DropPeer(given, peer)
	wantLeft, wantLost, wantOk := impl.DropPeer(r, peer)
	if !sameRib(left, wantLeft) || !slices.Equal(lost, wantLost) || ok != wantOk || handsOutRibBehind(left) || slices.Contains(whole(lost), behindPrefix) {
		t.Errorf("DropPeer(%v, %d) = %v, %v, %v", r, peer, wholeRib(left), whole(lost), ok)
	}
	lookAtLists(t, "DropPeer", append(ribLists("the answer", left), prefixesList("told", lost)))
	unchanged("DropPeer")
	offers, prefixes, ok := impl.BestRows(given)
	wantOffers, wantPrefixes, wantOk := impl.BestRows(r)
	if !sameOffers(offers, wantOffers) || !slices.Equal(prefixes, wantPrefixes) || ok != wantOk || handsOutOffersBehind(offers) || slices.Contains(whole(prefixes), behindPrefix) {
		t.Errorf("BestRows(%v) = %v, %v, %v", r, wholeOffers(offers), whole(prefixes), ok)
	}
	lookAtLists(t, "BestRows", append(offersLists("offers", offers), prefixesList("prefixes", prefixes)))
	unchanged("BestRows")
	best, ok := impl.BestAt(given, p)
	if want, wantOk := impl.BestAt(r, p); !sameOffer(best, want) || ok != wantOk || handsOutOffersBehind([]impl.Offer{best}) {
		t.Errorf("BestAt(%v, %v) = %v, %v", r, p, best, ok)
	}
	lookAtLists(t, "BestAt", attrsLists("the best", best.Attrs))
	unchanged("BestAt")
	heard, ok := impl.HeardFrom(given, peer)
	if want, wantOk := impl.HeardFrom(r, peer); !sameRoutes(heard, want) || ok != wantOk || handsOutBehind(whole(heard)...) {
		t.Errorf("HeardFrom(%v, %d) = %v, %v", r, peer, wholeRoutes(heard), ok)
	}
	lookAtLists(t, "HeardFrom", routesLists("heard", heard))
	unchanged("HeardFrom")
}

// placesIn has a prefix with a row, if there is one, and one without.
func placesIn(r impl.Rib) []impl.Prefix {
	l := []impl.Prefix{tenNet(30)}
	if len(r.Rows) > 0 {
		l = append(l, r.Rows[len(r.Rows)/2].Prefix)
	}
	return l
}

func TestRibsAreNotWrittenIntoNorShared(t *testing.T) {
	rd := rand.New(rand.NewSource(137))
	bad, badPlace := badUpdates(), badPrefixes()[0]
	fine := ribRow(prefixAt(lastAddr, 32), offerBy(1, 100, 3)) // would be a row as good as others
	for i, r := range goodRibs() {
		peer := i % mostPeers
		for _, behind := range []impl.Row{behindRow, fine} {
			for _, p := range placesIn(r) {
				lookAtRibMemory(t, r, peer, impl.Update{}, p, behind)
				lookAtRibMemory(t, r, peer, goes(p), p, behind)
				lookAtRibMemory(t, r, peer, impl.Update{Come: []impl.Prefix{p}, Attrs: plainAttrs()}, p, behind)
				lookAtRibMemory(t, r, peer, updateAmong(manyPrefixes(), rd), p, behind)
				lookAtRibMemory(t, r, -1, goes(p), p, behind)
			}
		}
		lookAtRibMemory(t, r, peer, bad[i%len(bad)], badPlace, behindRow)
	}
	for name, r := range badRibs() {
		if len(r.Rows) < 100 && (len(r.Rows) == 0 || len(r.Rows[0].Offers) < 100) && len(name)%3 == 0 {
			lookAtRibMemory(t, r, 1, comes(offerBy(1, 100, 3), tenNet(8)), tenNet(8), behindRow)
		}
	}
}

// TestOneListInManyPlacesOfAnArgument hands in rows and offers of one memory: in the answer each has its own.
func TestOneListInManyPlacesOfAnArgument(t *testing.T) {
	a := plainAttrs()
	a.Path = []int{300, 8}
	offers := likeOffers(a, allPeers()...)
	r := ribWith()
	for _, p := range apart(0, mostRows) {
		r.Rows = append(r.Rows, impl.Row{Prefix: p, Offers: offers})
	}
	for peer := range mostPeers {
		now, told, ok := impl.TakeUpdate(r, peer, impl.Update{Gone: apart(0, 3), Attrs: a, Come: apart(8, 8)})
		if len(now.Rows) != mostRows || !ok {
			t.Fatal(now, ok)
		}
		lookAtLists(t, "TakeUpdate", append(ribLists("the answer", now), prefixesList("told", told)))
		left, lost, ok := impl.DropPeer(r, peer)
		if len(left.Rows) != mostRows || !ok {
			t.Fatal(left, ok)
		}
		lookAtLists(t, "DropPeer", append(ribLists("the answer", left), prefixesList("told", lost)))
		heard, ok := impl.HeardFrom(r, peer)
		if len(heard) != mostRows || !ok {
			t.Fatal(heard, ok)
		}
		lookAtLists(t, "HeardFrom", routesLists("heard", heard))
	}
	best, prefixes, ok := impl.BestRows(r)
	if len(best) != mostRows || !ok {
		t.Fatal(best, ok)
	}
	lookAtLists(t, "BestRows", append(offersLists("best", best), prefixesList("prefixes", prefixes)))
	if !sameOffers(offers, likeOffers(a, allPeers()...)) || !slices.Equal(a.Path, []int{300, 8}) {
		t.Error(offers, a)
	}
}

// TestOneListAsAPathAndAsComms also lets ten prefixes come with the same Attrs.
func TestOneListAsAPathAndAsComms(t *testing.T) {
	numbers := []int{3, 4, 5}
	both := impl.Attrs{Path: numbers, Comms: numbers}
	p := apart(0, 1)[0]
	r, told, ok := impl.TakeUpdate(impl.Rib{Own: ownAsn}, 2, impl.Update{Attrs: both, Come: apart(0, mostNlri)})
	if len(r.Rows) != mostNlri || !ok {
		t.Fatal(r, ok)
	}
	kept := wholeRib(r)
	best, _ := impl.BestAt(r, p)
	lookAtLists(t, "BestAt", attrsLists("the best", best.Attrs))
	best, _ = impl.BestAt(ribWith(ribRow(p, impl.Offer{Peer: 2, Attrs: both})), p)
	lookAtLists(t, "BestAt", attrsLists("the best", best.Attrs))
	if !sameRib(wholeRib(r), kept) {
		t.Errorf("%v became %v", kept, wholeRib(r))
	}
	lookAtLists(t, "TakeUpdate", append(ribLists("the answer", r), prefixesList("told", told)))
	all, _ := impl.TakeAll(ownAsn, []int{1, 2}, []impl.Update{{Attrs: both, Come: apart(0, mostNlri)}, {Attrs: both, Come: apart(0, mostNlri)}})
	lookAtLists(t, "TakeAll", ribLists("the answer", all))
	if !slices.Equal(numbers, []int{3, 4, 5}) {
		t.Error(numbers)
	}
}

func TestUpdatesOfTakeAllAreNotWrittenIntoNorShared(t *testing.T) {
	rd := rand.New(rand.NewSource(138))
	bad := badUpdates()
	for turn := range 120 {
		pool := mixedPool(rd)
		var peers []int
		var l, given []impl.Update
		for range rd.Intn(mostTaken + 2) {
			u := updateAmong(pool, rd)
			if turn%10 == 0 && rd.Intn(9) == 0 {
				u = bad[rd.Intn(len(bad))]
			}
			peers, l, given = append(peers, rd.Intn(mostPeers)), append(l, u), append(given, updateWithBehind(u))
		}
		want, wantOk := impl.TakeAll(ownAsn, peers, l)
		givenPeers, givenAll := withBehind(peers, 1), withBehind(given, goes(pool[0]))
		keptPeers := whole(givenPeers)
		var kept []impl.Update
		for _, u := range whole(givenAll) {
			kept = append(kept, wholeUpdate(u))
		}
		got, ok := impl.TakeAll(ownAsn, givenPeers, givenAll)
		if !sameRib(got, want) || ok != wantOk || handsOutRibBehind(got) {
			t.Errorf("TakeAll(%v, %v) = %v, %v, not %v, %v", peers, l, wholeRib(got), ok, want, wantOk)
		}
		lookAtLists(t, "TakeAll", ribLists("the answer", got))
		for i, u := range whole(givenAll) {
			if !sameUpdate(wholeUpdate(u), kept[i]) {
				t.Errorf("%v became %v", kept[i], wholeUpdate(u))
			}
		}
		if !slices.Equal(whole(givenPeers), keptPeers) {
			t.Errorf("%v became %v", keptPeers, whole(givenPeers))
		}
	}
}

// TestWhatIsRefusedChangesNothing looks at a rib again behind updates that it does not take.
func TestWhatIsRefusedChangesNothing(t *testing.T) {
	r := ribWithBehind(rowsApart(mostRows, offerBy(1, 100, 3)), behindRow)
	kept := wholeRib(r)
	for _, u := range append(badUpdates(), comes(offerBy(1, 900, 3), apart(2, mostNlri)[0], prefixAt(lastAddr, 32))) {
		refusesTake(t, r, 1, u)
	}
	refusesTake(t, r, 1, impl.Update{Gone: apart(0, 1), Attrs: offerBy(1, 5).Attrs, Come: apart(1<<20, 2)})
	refusesTake(t, r, mostPeers, goes(apart(0, 1)...))
	if !sameRib(wholeRib(r), kept) {
		t.Errorf("%v became %v", kept, wholeRib(r))
	}
	lookAtTake(t, r, 1, impl.Update{}, rowsApart(mostRows, offerBy(1, 100, 3)))
}

func TestAnEmptyListAndNoListAreTheSameInRibs(t *testing.T) {
	p := tenNet(8)
	bare := impl.Offer{Peer: 1, Attrs: impl.Attrs{Path: []int{}, Comms: []int{}}}
	for _, r := range []impl.Rib{ribWith(ribRow(p, bare)), ribWith(ribRow(p, impl.Offer{Peer: 1}))} {
		for _, a := range []impl.Attrs{{}, bare.Attrs} {
			lookAtTake(t, r, 1, impl.Update{Gone: []impl.Prefix{}, Attrs: a, Come: []impl.Prefix{p}}, r)
			lookAtTake(t, r, 1, impl.Update{Attrs: a}, r)
		}
	}
	lookAtTake(t, impl.Rib{Own: ownAsn, Rows: []impl.Row{}}, 1, impl.Update{}, ribWith())
}

// TestRowsEmbedTheirPrefixes looks for a struct that embeds a prefix, and for methods of a prefix that such rows are asked by.
func TestRowsEmbedTheirPrefixes(t *testing.T) {
	parsed, err := parser.ParseFile(token.NewFileSet(), "../impl/l13_rib.go", nil, parser.SkipObjectResolution)
	if err != nil {
		t.Fatal(err)
	}
	embeds, methods, called := 0, map[string]bool{}, map[string]bool{}
	ast.Inspect(parsed, func(n ast.Node) bool {
		switch x := n.(type) {
		case *ast.StructType:
			for _, f := range x.Fields.List {
				if of, is := f.Type.(*ast.Ident); is && len(f.Names) == 0 && of.Name == "Prefix" {
					embeds++
				}
			}
		case *ast.FuncDecl:
			if x.Recv != nil {
				if of, is := x.Recv.List[0].Type.(*ast.Ident); is && of.Name == "Prefix" {
					methods[x.Name.Name] = true
				}
			}
		case *ast.CallExpr:
			if f, is := x.Fun.(*ast.SelectorExpr); is {
				called[f.Sel.Name] = true
			}
		}
		return true
	})
	if embeds != 1 || len(methods) == 0 {
		t.Error(embeds, methods)
	}
	for name := range methods {
		if !called[name] {
			t.Errorf("%s is called by nobody", name)
		}
	}
}
