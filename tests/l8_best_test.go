package tests

import (
	"fmt"
	"go/ast"
	"go/parser"
	"go/token"
	"math"
	"math/rand"
	"slices"
	"testing"

	"loop.example/g00344/impl"
)

const mostPeers = 6

func sameOffer(a, b impl.Offer) bool {
	return a.Peer == b.Peer && sameAttrs(a.Attrs, b.Attrs)
}

func sameOffers(a, b []impl.Offer) bool {
	return slices.EqualFunc(a, b, sameOffer)
}

func TestTheLimitOfPeersIsAsSaid(t *testing.T) {
	if impl.MaxPeers != mostPeers {
		t.Error(impl.MaxPeers)
	}
}

// rankKey has what the order goes by, from the first step on, the lesser one being better.
func rankKey(o impl.Offer) []int {
	return []int{-o.Attrs.Pref, len(o.Attrs.Path), o.Attrs.Origin, o.Attrs.Med, o.Attrs.Next, o.Peer}
}

func compareByWords(a, b impl.Offer) int {
	if a.Peer == b.Peer {
		return 0
	}
	return slices.Compare(rankKey(a), rankKey(b))
}

// rankByWords counts how many are better than each: that is its place.
func rankByWords(l []impl.Offer) []int {
	ranked := make([]int, len(l))
	for _, o := range l {
		better := 0
		for _, other := range l {
			if compareByWords(other, o) < 0 {
				better++
			}
		}
		ranked[better] = o.Peer
	}
	return ranked
}

func lookAtCompare(t *testing.T, a, b impl.Offer, want int) {
	t.Helper()
	if got, ok := impl.CompareOffers(a, b); got != want || !ok {
		t.Errorf("CompareOffers(%v, %v) = %v, %v, not %v", a, b, got, ok, want)
	}
	if got, ok := impl.CompareOffers(b, a); got != -want || !ok {
		t.Errorf("CompareOffers(%v, %v) = %v, %v, not %v", b, a, got, ok, -want)
	}
}

func mustCompare(t *testing.T, a, b impl.Offer) int {
	t.Helper()
	order, ok := impl.CompareOffers(a, b)
	if !ok || order < -1 || order > 1 {
		t.Fatalf("CompareOffers(%v, %v) = %v, %v", a, b, order, ok)
	}
	return order
}

func lookAtBest(t *testing.T, l []impl.Offer, want int, wantOk bool) {
	t.Helper()
	if got, ok := impl.BestOffer(l); got != want || ok != wantOk {
		t.Errorf("BestOffer(%v) = %v, %v, not %v, %v", l, got, ok, want, wantOk)
	}
}

func lookAtBestBy(t *testing.T, l []impl.Offer, asn int, want int, wantOk bool) {
	t.Helper()
	if got, ok := impl.BestBy(l, asn); got != want || ok != wantOk {
		t.Errorf("BestBy(%v, %d) = %v, %v, not %v, %v", l, asn, got, ok, want, wantOk)
	}
}

// lookAtOrder asks of offers what the document promises of them, by CompareOffers alone.
func lookAtOrder(t *testing.T, l []impl.Offer) {
	t.Helper()
	ranked, ok := impl.RankOffers(l)
	if !ok || len(ranked) != len(l) {
		t.Fatalf("RankOffers(%v) = %v, %v", l, ranked, ok)
	}
	byPeer := map[int]impl.Offer{}
	for _, o := range l {
		byPeer[o.Peer] = o
	}
	for i, peer := range ranked {
		o, is := byPeer[peer]
		if !is {
			t.Fatalf("RankOffers(%v) = %v: %d is none of them, or twice there", l, ranked, peer)
		}
		delete(byPeer, peer)
		for _, other := range l {
			want := -1
			if other.Peer == peer {
				want = 0
			} else if slices.Contains(ranked[:i], other.Peer) {
				want = 1
			}
			if got := mustCompare(t, o, other); got != want {
				t.Errorf("%v ranked %v, but CompareOffers(%v, %v) = %v", l, ranked, o, other, got)
			}
		}
	}
	if len(l) == 0 {
		lookAtBest(t, l, 0, false)
	} else {
		lookAtBest(t, l, ranked[0], true)
	}
	if want := rankByWords(l); !slices.Equal(ranked, want) {
		t.Errorf("RankOffers(%v) = %v, not %v", l, ranked, want)
	}
}

// smallAttrs has two values of each thing that the order looks at.
func smallAttrs() []impl.Attrs {
	var l []impl.Attrs
	for bits := range 32 {
		a := impl.Attrs{Pref: bits & 1, Origin: bits >> 2 & 1, Med: bits >> 3 & 1, Next: bits >> 4 & 1}
		if bits>>1&1 == 1 {
			a.Path = []int{3}
		}
		l = append(l, a)
	}
	return l
}

// mixedOffer has few values, so that each step of the order decides at times; others are of all values.
func mixedOffer(peer int, r *rand.Rand) impl.Offer {
	if r.Intn(4) == 0 {
		return impl.Offer{Peer: peer, Attrs: mixedAttrs(r)}
	}
	a := impl.Attrs{Pref: mostValue - r.Intn(2), Origin: 1 + r.Intn(2), Med: r.Intn(2) * mostValue, Next: lastAddr - r.Intn(2)}
	a.Path = mixedPath(mostPath-r.Intn(2), r)
	if r.Intn(2) == 0 {
		a.Comms = []int{r.Intn(3), 5 + r.Intn(3)}
	}
	return impl.Offer{Peer: peer, Attrs: a}
}

func mixedOffers(many int, r *rand.Rand) []impl.Offer {
	peers := r.Perm(mostPeers)[:many]
	slices.Sort(peers)
	var l []impl.Offer
	for _, peer := range peers {
		l = append(l, mixedOffer(peer, r))
	}
	return l
}

// likeOffers has offers that are all alike but for their peers.
func likeOffers(a impl.Attrs, peers ...int) []impl.Offer {
	var l []impl.Offer
	for _, peer := range peers {
		l = append(l, impl.Offer{Peer: peer, Attrs: a})
	}
	return l
}

func allPeers() []int {
	return []int{0, 1, 2, 3, 4, 5}
}

func goodOffers() [][]impl.Offer {
	l := [][]impl.Offer{nil, {}, {{}}, {{Peer: mostPeers - 1}}, {{Peer: 0}, {Peer: mostPeers - 1}}}
	for _, a := range goodAttrs() {
		l = append(l, likeOffers(a, 3), likeOffers(a, 0, 5), likeOffers(a, allPeers()...))
	}
	r := rand.New(rand.NewSource(8))
	for many := range mostPeers + 1 {
		for range 20 {
			l = append(l, mixedOffers(many, r))
		}
	}
	return l
}

func badPeers() []int {
	return []int{-1, -2, mostPeers, mostPeers + 1, 256, 1 << 32, 1<<32 + 3, math.MinInt, math.MaxInt}
}

func badSingles() []impl.Offer {
	var l []impl.Offer
	for _, peer := range badPeers() {
		l = append(l, impl.Offer{Peer: peer}, impl.Offer{Peer: peer, Attrs: plainAttrs()}, impl.Offer{Peer: peer, Attrs: badAttrs()[0]})
	}
	for i, a := range badAttrs() {
		l = append(l, impl.Offer{Peer: i % mostPeers, Attrs: a})
	}
	return l
}

// badOffers has lists that are not good, most of them by one fault alone.
func badOffers() map[string][]impl.Offer {
	all := map[string][]impl.Offer{
		"one more than there may be": likeOffers(plainAttrs(), 0, 1, 2, 3, 4, 5, 6),
		"seven, the last one twice":  likeOffers(plainAttrs(), 0, 1, 2, 3, 4, 5, 5),
		"seven, the first one twice": likeOffers(plainAttrs(), 0, 0, 1, 2, 3, 4, 5),
		"far too many":               make([]impl.Offer, 5000),
		"two alike":                  likeOffers(plainAttrs(), 3, 3),
		"two of one peer":            {{Peer: 3, Attrs: plainAttrs()}, {Peer: 3}},
		"two of the first peer":      likeOffers(impl.Attrs{}, 0, 0),
		"falling":                    likeOffers(plainAttrs(), 1, 0),
		"all falling":                likeOffers(plainAttrs(), 5, 4, 3, 2, 1, 0),
		"the last one falls":         likeOffers(plainAttrs(), 1, 2, 4, 3),
		"the first one is too great": likeOffers(plainAttrs(), 2, 1, 3, 4),
		"the same again at the end":  likeOffers(plainAttrs(), 0, 1, 0),
		"the last one below 0":       likeOffers(plainAttrs(), 0, 1, -1),
	}
	for i, o := range badSingles() {
		name := fmt.Sprintf("%d: %v", i, o)
		all[name+", alone"] = []impl.Offer{o}
		all[name+", among others"] = amongOthers(o)
	}
	return all
}

// amongOthers has MaxPeers offers that rise by Peer, all good but this one.
func amongOthers(o impl.Offer) []impl.Offer {
	l := likeOffers(plainAttrs(), allPeers()...)
	if o.Peer < 0 {
		l[0] = o
	} else if o.Peer >= mostPeers {
		l[mostPeers-1] = o
	} else {
		l[o.Peer] = o
	}
	return l
}

func TestOffersAreGoodByTheirWords(t *testing.T) {
	for _, l := range goodOffers() {
		if !impl.GoodOffers(l) {
			t.Errorf("%v are not good", l)
		}
	}
	for name, l := range badOffers() {
		if impl.GoodOffers(l) {
			t.Errorf("%s: are good", name)
		}
	}
}

func TestGoodOffersOfAllSmallRowsOfPeers(t *testing.T) {
	rows := [][]int{{}}
	for len(rows) > 0 {
		row := rows[0]
		rows = rows[1:]
		want := true
		for i, peer := range row {
			want = want && 0 <= peer && peer < mostPeers && (i == 0 || row[i-1] < peer)
		}
		if got := impl.GoodOffers(likeOffers(plainAttrs(), row...)); got != want {
			t.Errorf("peers %v: %v", row, got)
		}
		for peer := -1; peer <= mostPeers && len(row) < 4; peer++ {
			rows = append(rows, append(slices.Clone(row), peer))
		}
	}
	for bits := range 1 << mostPeers {
		var row []int
		for peer := range mostPeers {
			if bits>>peer&1 == 1 {
				row = append(row, peer)
			}
		}
		if !impl.GoodOffers(likeOffers(fullAttrs(), row...)) {
			t.Errorf("peers %v are not good", row)
		}
	}
}

func TestCompareOffersIsOneOrderOfAllSmallOnes(t *testing.T) {
	attrs := smallAttrs()
	peers := [][3]int{{0, 1, 2}, {0, 2, 1}, {1, 0, 2}, {1, 2, 0}, {2, 0, 1}, {2, 1, 0}}
	for _, p := range peers {
		for _, first := range attrs {
			a := impl.Offer{Peer: p[0], Attrs: first}
			for _, second := range attrs {
				b := impl.Offer{Peer: p[1], Attrs: second}
				ab := mustCompare(t, a, b)
				if ab == 0 || mustCompare(t, b, a) != -ab || ab != compareByWords(a, b) {
					t.Errorf("CompareOffers(%v, %v) = %v, the other way round %v", a, b, ab, mustCompare(t, b, a))
				}
				for _, third := range attrs {
					c := impl.Offer{Peer: p[2], Attrs: third}
					if ab < 0 && mustCompare(t, b, c) < 0 && mustCompare(t, a, c) >= 0 {
						t.Errorf("%v before %v before %v, but not before it", a, b, c)
					}
				}
			}
		}
	}
}

func TestCompareOffersIsOneOrderOfManyGreaterOnes(t *testing.T) {
	r := rand.New(rand.NewSource(81))
	for range 20000 {
		p := r.Perm(mostPeers)
		a, b, c := mixedOffer(p[0], r), mixedOffer(p[1], r), mixedOffer(p[2], r)
		ab, bc, ac := mustCompare(t, a, b), mustCompare(t, b, c), mustCompare(t, a, c)
		if ab == 0 || bc == 0 || ac == 0 || ab == bc && ac != ab {
			t.Errorf("%v, %v, %v: %v, %v, %v", a, b, c, ab, bc, ac)
		}
		lookAtCompare(t, a, b, compareByWords(a, b))
		lookAtCompare(t, a, c, compareByWords(a, c))
	}
}

func TestTheBestOfAllSmallOffersIsBeforeAllOthers(t *testing.T) {
	attrs := smallAttrs()
	for p := range mostPeers {
		for _, first := range attrs {
			lookAtOrder(t, []impl.Offer{{Peer: p, Attrs: first}})
		}
		for q := p + 1; q < mostPeers; q++ {
			for _, first := range attrs {
				for _, second := range attrs {
					lookAtOrder(t, []impl.Offer{{Peer: p, Attrs: first}, {Peer: q, Attrs: second}})
				}
			}
		}
	}
	for _, first := range attrs {
		for _, second := range attrs {
			for _, third := range attrs {
				lookAtOrder(t, []impl.Offer{{Peer: 1, Attrs: first}, {Peer: 3, Attrs: second}, {Peer: 4, Attrs: third}})
			}
		}
	}
}

func TestTheBestOfManyGreaterOffersIsBeforeAllOthers(t *testing.T) {
	for _, l := range goodOffers() {
		lookAtOrder(t, l)
	}
	r := rand.New(rand.NewSource(82))
	for range 6000 {
		lookAtOrder(t, mixedOffers(r.Intn(mostPeers+1), r))
	}
}

// TestTheBestHangsOnNoOther drops others, one by one, from the worst one on: who is the best stays so.
func TestTheBestHangsOnNoOther(t *testing.T) {
	r := rand.New(rand.NewSource(83))
	for range 1000 {
		l := mixedOffers(1+r.Intn(mostPeers), r)
		ranked, _ := impl.RankOffers(l)
		for left := len(ranked) - 1; left > 0; left-- {
			l, _ = impl.DropOffer(l, ranked[left])
			lookAtBest(t, l, ranked[0], true)
			if got, ok := impl.RankOffers(l); !slices.Equal(got, ranked[:left]) || !ok {
				t.Errorf("RankOffers(%v) = %v, %v, not %v", l, got, ok, ranked[:left])
			}
		}
	}
}

// offerStep is a step of the order with pairs of offers, the better one first, that it alone tells apart.
type offerStep struct {
	name  string
	pairs [][2]impl.Offer
}

func offerPairs(values [][2]int, put func(o *impl.Offer, n int)) [][2]impl.Offer {
	var pairs [][2]impl.Offer
	for _, v := range values {
		for _, a := range []impl.Attrs{{}, plainAttrs(), fullAttrs()} {
			better, worse := impl.Offer{Peer: 4, Attrs: a}, impl.Offer{Peer: 1, Attrs: a}
			put(&better, v[0])
			put(&worse, v[1])
			pairs = append(pairs, [2]impl.Offer{better, worse})
		}
	}
	return pairs
}

// offerSteps has the better one with the greater peer, but for the last step.
func offerSteps() []offerStep {
	value := [][2]int{{0, 1}, {0, mostValue}, {mostValue - 1, mostValue}, {99, 100}, {9, 10}, {255, 256}, {65535, 65536}}
	var turned [][2]int
	for _, v := range value {
		turned = append(turned, [2]int{v[1], v[0]})
	}
	addr := [][2]int{{0, 1}, {0, lastAddr}, {lastAddr - 1, lastAddr}, {1<<31 - 1, 1 << 31}, {10<<24 | 255, 10<<24 | 256}, {9, 10}}
	var lengths, peers [][2]int
	for long := range mostPath {
		lengths = append(lengths, [2]int{long, long + 1}, [2]int{long, mostPath})
	}
	for p := range mostPeers {
		for q := p + 1; q < mostPeers; q++ {
			peers = append(peers, [2]int{p, q})
		}
	}
	return []offerStep{
		{"the greater Pref", offerPairs(turned, func(o *impl.Offer, n int) { o.Attrs.Pref = n })},
		{"the shorter Path", offerPairs(lengths, func(o *impl.Offer, n int) { o.Attrs.Path = slices.Repeat([]int{mostPath + 1 - n}, n) })},
		{"the lesser Origin", offerPairs([][2]int{{0, 1}, {1, 2}, {0, 2}}, func(o *impl.Offer, n int) { o.Attrs.Origin = n })},
		{"the lesser Med", offerPairs(value, func(o *impl.Offer, n int) { o.Attrs.Med = n })},
		{"the lesser Next", offerPairs(addr, func(o *impl.Offer, n int) { o.Attrs.Next = n })},
		{"the lesser Peer", offerPairs(peers, func(o *impl.Offer, n int) { o.Peer = n })},
	}
}

func TestEachStepAloneTellsTheBetterOne(t *testing.T) {
	for _, step := range offerSteps() {
		for _, pair := range step.pairs {
			better, worse := pair[0], pair[1]
			if got, ok := impl.CompareOffers(better, worse); got != -1 || !ok {
				t.Errorf("%s: CompareOffers(%v, %v) = %v, %v", step.name, better, worse, got, ok)
			}
			if got, ok := impl.CompareOffers(worse, better); got != 1 || !ok {
				t.Errorf("%s: CompareOffers(%v, %v) = %v, %v", step.name, worse, better, got, ok)
			}
			l := []impl.Offer{better, worse}
			if better.Peer > worse.Peer {
				l = []impl.Offer{worse, better}
			}
			lookAtBest(t, l, better.Peer, true)
			if got, ok := impl.RankOffers(l); !slices.Equal(got, []int{better.Peer, worse.Peer}) || !ok {
				t.Errorf("%s: RankOffers(%v) = %v, %v", step.name, l, got, ok)
			}
		}
	}
}

// offersBySigns has two offers of which by step i the first one is better (-1), worse (1) or as good (0).
func offersBySigns(signs [6]int) (impl.Offer, impl.Offer) {
	b := impl.Offer{Peer: 3, Attrs: impl.Attrs{Pref: 500, Path: []int{1, 2}, Origin: 1, Med: 70, Next: 1 << 31}}
	a := impl.Offer{Peer: 3 + signs[5], Attrs: impl.Attrs{
		Pref:   500 - signs[0],
		Path:   slices.Repeat([]int{9}, 2+signs[1]),
		Origin: 1 + signs[2],
		Med:    70 + signs[3],
		Next:   1<<31 + signs[4],
	}}
	return a, b
}

func TestAStepAheadCountsAgainstAllBehindIt(t *testing.T) {
	decided := map[int]int{}
	for n := range 729 {
		var signs [6]int
		for i := range signs {
			signs[i] = n%3 - 1
			n /= 3
		}
		a, b := offersBySigns(signs)
		want := 0
		for i, sign := range signs {
			if signs[5] != 0 && sign != 0 {
				want = sign
				decided[i]++
				break
			}
		}
		lookAtCompare(t, a, b, want)
	}
	for i, want := range []int{324, 108, 36, 12, 4, 2} {
		if decided[i] != want {
			t.Errorf("step %d decided %d times, not %d", i, decided[i], want)
		}
	}
}

func TestOfOnePeerCompareOffersIsAlwaysNought(t *testing.T) {
	r := rand.New(rand.NewSource(84))
	attrs := append(goodAttrs(), smallAttrs()...)
	for peer := range mostPeers {
		for _, first := range attrs {
			for _, second := range attrs {
				lookAtCompare(t, impl.Offer{Peer: peer, Attrs: first}, impl.Offer{Peer: peer, Attrs: second}, 0)
			}
		}
		for range 500 {
			lookAtCompare(t, mixedOffer(peer, r), mixedOffer(peer, r), 0)
		}
	}
}

func TestWhatTheOrderDoesNotLookAt(t *testing.T) {
	for name, c := range map[string][2]impl.Attrs{
		"communities":                 {{Comms: []int{1}}, {Comms: []int{0, 2}}},
		"communities and none":        {{Comms: []int{0, 1, 2, 3, 4, 5}}, {}},
		"the numbers of a path":       {{Path: []int{1, 2}}, {Path: []int{mostAsn, 1}}},
		"one number several times":    {{Path: []int{7, 7, 7}}, {Path: []int{7, 8, 9}}},
		"an empty path and none":      {{Path: []int{}}, {}},
		"the last number of a path":   {{Path: []int{5, 4}}, {Path: []int{5, 3}}},
		"nothing: they are all alike": {plainAttrs(), plainAttrs()},
	} {
		for p := range mostPeers {
			for q := p + 1; q < mostPeers; q++ {
				for _, both := range [][2]impl.Attrs{c, {c[1], c[0]}} {
					a, b := impl.Offer{Peer: p, Attrs: both[0]}, impl.Offer{Peer: q, Attrs: both[1]}
					if got, ok := impl.CompareOffers(a, b); got != -1 || !ok {
						t.Errorf("%s: CompareOffers(%v, %v) = %v, %v", name, a, b, got, ok)
					}
					lookAtBest(t, []impl.Offer{a, b}, p, true)
				}
			}
		}
	}
}

func TestCompareOffersOfOnesThatAreNotGood(t *testing.T) {
	good := []impl.Offer{{}, {Peer: 3, Attrs: plainAttrs()}, {Peer: mostPeers - 1, Attrs: fullAttrs()}}
	refused := func(a, b impl.Offer) {
		t.Helper()
		if got, ok := impl.CompareOffers(a, b); got != 0 || ok {
			t.Errorf("CompareOffers(%v, %v) = %v, %v", a, b, got, ok)
		}
	}
	for _, bad := range badSingles() {
		for _, o := range good {
			refused(bad, o)
			refused(o, bad)
		}
		refused(bad, bad)
		refused(bad, impl.Offer{Peer: bad.Peer})
		refused(impl.Offer{Peer: bad.Peer}, bad)
	}
}

func TestBestOfNoneAndOfOne(t *testing.T) {
	for _, l := range [][]impl.Offer{nil, {}} {
		lookAtBest(t, l, 0, false)
		lookAtBestBy(t, l, 7, 0, false)
		if got, ok := impl.RankOffers(l); len(got) != 0 || !ok {
			t.Errorf("RankOffers(%v) = %v, %v", l, got, ok)
		}
	}
	for peer := range mostPeers {
		for _, a := range goodAttrs() {
			l := []impl.Offer{{Peer: peer, Attrs: a}}
			lookAtBest(t, l, peer, true)
			if got, ok := impl.RankOffers(l); !slices.Equal(got, []int{peer}) || !ok {
				t.Errorf("RankOffers(%v) = %v, %v", l, got, ok)
			}
			for _, asn := range append([]int{1, 2, 7, mostAsn}, a.Path...) {
				if slices.Contains(a.Path, asn) {
					lookAtBestBy(t, l, asn, 0, false)
				} else {
					lookAtBestBy(t, l, asn, peer, true)
				}
			}
		}
	}
}

func TestBestByThatIsKnown(t *testing.T) {
	l := []impl.Offer{
		{Peer: 0, Attrs: impl.Attrs{Pref: 1, Path: []int{mostAsn}}},
		{Peer: 2, Attrs: impl.Attrs{Pref: 3, Path: []int{1, 5, 7}}},
		{Peer: 3, Attrs: impl.Attrs{Pref: 2, Path: []int{6, 5, mostAsn}}},
		{Peer: 5, Attrs: impl.Attrs{Pref: 2, Path: []int{6, 5, 1, 4}}},
	}
	for asn, want := range map[int]int{1: 3, mostAsn: 2, 5: 0, 6: 2, 7: 3, 4: 2, 2: 2, mostAsn - 1: 2, 3: 2} {
		lookAtBestBy(t, l, asn, want, true)
	}
	lookAtBest(t, l, 2, true)
	for asn, other := range map[int]int{1: 2, 5: 4, mostAsn: mostAsn - 1} {
		for place := range mostPath {
			path := slices.Repeat([]int{9}, mostPath)
			path[place] = asn
			one := impl.Offer{Peer: 1, Attrs: impl.Attrs{Pref: 9, Path: path}}
			lookAtBestBy(t, []impl.Offer{one}, asn, 0, false)
			lookAtBestBy(t, []impl.Offer{one, {Peer: 4}}, asn, 4, true)
			lookAtBestBy(t, []impl.Offer{one, {Peer: 4}}, other, 1, true)
		}
	}
	every := likeOffers(impl.Attrs{Path: []int{8, 7}}, allPeers()...)
	lookAtBestBy(t, every, 7, 0, false)
	lookAtBestBy(t, every, 8, 0, false)
	lookAtBestBy(t, every, 6, 0, true)
	others := likeOffers(impl.Attrs{Next: 7, Med: 7, Pref: 7, Comms: []int{7}, Path: []int{8}}, allPeers()...)
	lookAtBestBy(t, others, 7, 0, true)
}

// TestBestByIsBestOfferWithoutThoseThatHaveTheAsn drops them one by one first.
func TestBestByIsBestOfferWithoutThoseThatHaveTheAsn(t *testing.T) {
	r := rand.New(rand.NewSource(85))
	left := map[int]int{}
	for range 4000 {
		l := mixedOffers(r.Intn(mostPeers+1), r)
		for i := range l {
			l[i].Attrs.Path = mixedPath(r.Intn(4), r)
		}
		for _, asn := range []int{3, 4, 1 + r.Intn(9), mostAsn} {
			rest := l
			for _, o := range l {
				if slices.Contains(o.Attrs.Path, asn) {
					rest, _ = impl.DropOffer(rest, o.Peer)
				}
			}
			want, ok := impl.BestOffer(rest)
			lookAtBestBy(t, l, asn, want, ok)
			left[len(l)-len(rest)]++
		}
	}
	if left[0] < 500 || left[1] < 500 || left[2] < 500 {
		t.Error(left)
	}
}

func TestBestByOfAnAsnThatIsNone(t *testing.T) {
	for _, asn := range badAsns() {
		for _, l := range goodOffers() {
			lookAtBestBy(t, l, asn, 0, false)
		}
		for _, l := range badOffers() {
			lookAtBestBy(t, l, asn, 0, false)
		}
	}
}

// addByWords goes peer by peer.
func addByWords(l []impl.Offer, o impl.Offer) []impl.Offer {
	var grown []impl.Offer
	for peer := range mostPeers {
		if peer == o.Peer {
			grown = append(grown, o)
			continue
		}
		for _, other := range l {
			if other.Peer == peer {
				grown = append(grown, other)
			}
		}
	}
	return grown
}

func lookAtAdd(t *testing.T, l []impl.Offer, o impl.Offer, want []impl.Offer) {
	t.Helper()
	got, ok := impl.AddOffer(l, o)
	if !sameOffers(got, want) || !ok || !impl.GoodOffers(got) {
		t.Errorf("AddOffer(%v, %v) = %v, %v, not %v", l, o, got, ok, want)
	}
}

func TestAddOfferThatIsKnown(t *testing.T) {
	of := func(peer, med int) impl.Offer {
		return impl.Offer{Peer: peer, Attrs: impl.Attrs{Med: med, Path: []int{9}, Comms: []int{5}}}
	}
	l := []impl.Offer{of(1, 1), of(3, 3)}
	for name, c := range map[string]struct {
		l    []impl.Offer
		o    impl.Offer
		want []impl.Offer
	}{
		"to none":                     {nil, of(4, 7), []impl.Offer{of(4, 7)}},
		"at the beginning":            {l, of(0, 7), []impl.Offer{of(0, 7), of(1, 1), of(3, 3)}},
		"between":                     {l, of(2, 7), []impl.Offer{of(1, 1), of(2, 7), of(3, 3)}},
		"at the end":                  {l, of(5, 7), []impl.Offer{of(1, 1), of(3, 3), of(5, 7)}},
		"right behind the last one":   {l, of(4, 0), []impl.Offer{of(1, 1), of(3, 3), of(4, 0)}},
		"for the first one's":         {l, of(1, 7), []impl.Offer{of(1, 7), of(3, 3)}},
		"for the last one's":          {l, of(3, 7), []impl.Offer{of(1, 1), of(3, 7)}},
		"for the only one's":          {l[:1], of(1, 7), []impl.Offer{of(1, 7)}},
		"the same again":              {l, of(3, 3), l},
		"a worse one for a better":    {l, impl.Offer{Peer: 3}, []impl.Offer{of(1, 1), {Peer: 3}}},
		"a full one for an empty one": {[]impl.Offer{{Peer: 0}}, impl.Offer{Attrs: fullAttrs()}, []impl.Offer{{Attrs: fullAttrs()}}},
	} {
		t.Run(name, func(t *testing.T) { lookAtAdd(t, c.l, c.o, c.want) })
	}
}

func TestAddOfferComesToItsPlace(t *testing.T) {
	r := rand.New(rand.NewSource(86))
	for _, l := range goodOffers() {
		for peer := range mostPeers {
			o := mixedOffer(peer, r)
			lookAtAdd(t, l, o, addByWords(l, o))
		}
	}
	full := likeOffers(fullAttrs(), allPeers()...)
	for peer := range mostPeers {
		want := slices.Clone(full)
		want[peer] = impl.Offer{Peer: peer, Attrs: plainAttrs()}
		lookAtAdd(t, full, want[peer], want)
		lookAtAdd(t, slices.Delete(slices.Clone(full), peer, peer+1), full[peer], full)
	}
}

// TestOffersMayComeInAnyOrder adds the same offers in mixed orders, with older ones of the same peers ahead of them.
func TestOffersMayComeInAnyOrder(t *testing.T) {
	r := rand.New(rand.NewSource(87))
	for range 1000 {
		want := mixedOffers(r.Intn(mostPeers+1), r)
		var l []impl.Offer
		for _, i := range r.Perm(len(want)) {
			if r.Intn(2) == 0 {
				l, _ = impl.AddOffer(l, mixedOffer(want[i].Peer, r))
			}
		}
		for _, i := range r.Perm(len(want)) {
			l, _ = impl.AddOffer(l, want[i])
		}
		if !sameOffers(l, want) {
			t.Errorf("%v, not %v", l, want)
		}
		lookAtOrder(t, l)
	}
}

func refusesAdd(t *testing.T, l []impl.Offer, o impl.Offer) {
	t.Helper()
	if got, ok := impl.AddOffer(l, o); len(got) != 0 || ok {
		t.Errorf("AddOffer(%v, %v) = %v, %v", l, o, got, ok)
	}
}

func TestAddOfferOfOneThatIsNotGood(t *testing.T) {
	lists := [][]impl.Offer{nil, {{Peer: 2, Attrs: plainAttrs()}}, likeOffers(plainAttrs(), 0, 5), likeOffers(fullAttrs(), allPeers()...)}
	for _, o := range badSingles() {
		for _, l := range lists {
			refusesAdd(t, l, o)
		}
		refusesAdd(t, []impl.Offer{{Peer: o.Peer}}, o)
		refusesAdd(t, []impl.Offer{o}, o)
	}
}

func TestDropOfferOfEachPeer(t *testing.T) {
	for _, l := range goodOffers() {
		for peer := -1; peer <= mostPeers; peer++ {
			want := slices.DeleteFunc(slices.Clone(l), func(o impl.Offer) bool { return o.Peer == peer })
			is := len(want) < len(l)
			if !is {
				want = nil
			}
			if got, ok := impl.DropOffer(l, peer); !sameOffers(got, want) || ok != is {
				t.Errorf("DropOffer(%v, %d) = %v, %v, not %v, %v", l, peer, got, ok, want, is)
			}
		}
		for _, peer := range badPeers() {
			if got, ok := impl.DropOffer(l, peer); len(got) != 0 || ok {
				t.Errorf("DropOffer(%v, %d) = %v, %v", l, peer, got, ok)
			}
		}
	}
}

func TestDropOfferDownToTheLastOne(t *testing.T) {
	r := rand.New(rand.NewSource(88))
	for range 300 {
		l := mixedOffers(mostPeers, r)
		for many, peer := range r.Perm(mostPeers) {
			left, ok := impl.DropOffer(l, peer)
			if !ok || len(left) != mostPeers-1-many || !impl.GoodOffers(left) {
				t.Fatalf("DropOffer(%v, %d) = %v, %v", l, peer, left, ok)
			}
			if again, ok := impl.DropOffer(left, peer); len(again) != 0 || ok {
				t.Errorf("DropOffer(%v, %d) = %v, %v", left, peer, again, ok)
			}
			at := slices.IndexFunc(l, func(o impl.Offer) bool { return o.Peer == peer })
			lookAtAdd(t, left, l[at], l)
			l = left
		}
	}
	for peer := range mostPeers {
		left, ok := impl.DropOffer([]impl.Offer{{Peer: peer, Attrs: plainAttrs()}}, peer)
		if len(left) != 0 || !ok {
			t.Errorf("the last one, of %d: %v, %v", peer, left, ok)
		}
		lookAtBest(t, left, 0, false)
	}
}

func TestOffersThatAreNotGoodAreRefused(t *testing.T) {
	for name, l := range badOffers() {
		if peer, ok := impl.BestOffer(l); peer != 0 || ok {
			t.Errorf("%s: BestOffer: %v, %v", name, peer, ok)
		}
		if ranked, ok := impl.RankOffers(l); len(ranked) != 0 || ok {
			t.Errorf("%s: RankOffers: %v, %v", name, ranked, ok)
		}
		for _, asn := range []int{1, 7, 300, mostAsn} {
			if peer, ok := impl.BestBy(l, asn); peer != 0 || ok {
				t.Errorf("%s: BestBy: %v, %v", name, peer, ok)
			}
		}
		for _, peer := range append(badPeers(), allPeers()...) {
			if left, ok := impl.DropOffer(l, peer); len(left) != 0 || ok {
				t.Errorf("%s: DropOffer of %d: %v, %v", name, peer, left, ok)
			}
			refusesAdd(t, l, impl.Offer{Peer: peer, Attrs: plainAttrs()})
		}
	}
}

var behindOffer = impl.Offer{Peer: -7}

func offerWithBehind(o impl.Offer) impl.Offer {
	return impl.Offer{Peer: o.Peer, Attrs: attrsWithBehind(o.Attrs)}
}

func offersWithBehind(l []impl.Offer) []impl.Offer {
	own := slices.Clone(l)
	for i, o := range own {
		own[i] = offerWithBehind(o)
	}
	return withBehind(own, behindOffer)
}

func wholeOffers(l []impl.Offer) []impl.Offer {
	own := whole(l)
	for i, o := range own {
		own[i].Attrs = wholeAttrs(o.Attrs)
	}
	return own
}

func overwriteOffers(l []impl.Offer) {
	for _, o := range l {
		overwriteAttrs(o.Attrs)
	}
	overwrite(l, impl.Offer{Peer: -9})
}

func handsOutOffersBehind(l []impl.Offer) bool {
	for _, o := range wholeOffers(l) {
		if o.Peer == behindOffer.Peer || slices.Contains(o.Attrs.Path, behindNumber) || slices.Contains(o.Attrs.Comms, behindNumber) {
			return true
		}
	}
	return false
}

// lookAtOfferMemory hands all in with memory behind it, and writes into all that is answered.
func lookAtOfferMemory(t *testing.T, l []impl.Offer, o impl.Offer, asn int) {
	t.Helper()
	givenL, givenO := offersWithBehind(l), offerWithBehind(o)
	keptL, keptO := wholeOffers(givenL), wholeAttrs(givenO.Attrs)
	same := impl.GoodOffers(givenL) == impl.GoodOffers(l)
	best, bestOk := impl.BestOffer(givenL)
	wantBest, wantBestOk := impl.BestOffer(l)
	by, byOk := impl.BestBy(givenL, asn)
	wantBy, wantByOk := impl.BestBy(l, asn)
	ranked, rankedOk := impl.RankOffers(givenL)
	wantRanked, wantRankedOk := impl.RankOffers(l)
	same = same && best == wantBest && bestOk == wantBestOk && by == wantBy && byOk == wantByOk
	if !same || !slices.Equal(ranked, wantRanked) || rankedOk != wantRankedOk {
		t.Errorf("%v, %d: what lies behind is read", l, asn)
	}
	overwrite(ranked, -9)
	for i, other := range givenL {
		order, ok := impl.CompareOffers(givenO, other)
		if want, wantOk := impl.CompareOffers(o, l[i]); order != want || ok != wantOk {
			t.Errorf("CompareOffers(%v, %v) = %v, %v", o, l[i], order, ok)
		}
	}
	grown, ok := impl.AddOffer(givenL, givenO)
	if want, wantOk := impl.AddOffer(l, o); !sameOffers(grown, want) || ok != wantOk || handsOutOffersBehind(grown) {
		t.Errorf("AddOffer(%v, %v) = %v, %v", l, o, wholeOffers(grown), ok)
	}
	overwriteOffers(grown)
	left, ok := impl.DropOffer(givenL, o.Peer)
	if want, wantOk := impl.DropOffer(l, o.Peer); !sameOffers(left, want) || ok != wantOk || handsOutOffersBehind(left) {
		t.Errorf("DropOffer(%v, %v) = %v, %v", l, o.Peer, wholeOffers(left), ok)
	}
	overwriteOffers(left)
	if !sameOffers(wholeOffers(givenL), keptL) || !sameAttrs(wholeAttrs(givenO.Attrs), keptO) {
		t.Errorf("%v, %v became %v, %v", keptL, keptO, wholeOffers(givenL), wholeAttrs(givenO.Attrs))
	}
}

func TestOffersAreNotWrittenIntoNorShared(t *testing.T) {
	r := rand.New(rand.NewSource(89))
	for _, l := range goodOffers() {
		for peer := range mostPeers {
			lookAtOfferMemory(t, l, mixedOffer(peer, r), 3)
		}
		lookAtOfferMemory(t, l, badSingles()[r.Intn(len(badSingles()))], 0)
	}
	for name, l := range badOffers() {
		if name != "far too many" {
			lookAtOfferMemory(t, l, impl.Offer{Peer: 3, Attrs: plainAttrs()}, 7)
			lookAtOfferMemory(t, l, impl.Offer{Peer: -1, Attrs: fullAttrs()}, mostAsn)
		}
	}
	for _, o := range badSingles() {
		lookAtOfferMemory(t, likeOffers(plainAttrs(), 0, 3, 5), o, 300)
	}
}

// TestListsOfOneAnswerOfOffersShareNoMemory hands in offers of one memory, writes into one list of an answer and looks at the others.
func TestListsOfOneAnswerOfOffersShareNoMemory(t *testing.T) {
	a := plainAttrs()
	like := likeOffers(a, allPeers()...)
	added, _ := impl.AddOffer(like[:4], like[4])
	again, _ := impl.AddOffer(like, like[2])
	left, _ := impl.DropOffer(like, 3)
	for name, l := range map[string][]impl.Offer{"added": added, "added again": again, "left": left} {
		if len(l) < 5 {
			t.Fatalf("%s: %v", name, l)
		}
		for i := range l {
			overwrite(l[i].Attrs.Path, -9)
			if !slices.Equal(l[i].Attrs.Comms, a.Comms) {
				t.Errorf("%s: writing into a Path makes Comms %v", name, l[i].Attrs.Comms)
			}
			overwriteAttrs(l[i].Attrs)
			for _, behind := range l[i+1:] {
				if !sameAttrs(behind.Attrs, plainAttrs()) {
					t.Fatalf("%s: writing into offer %d makes another one %v", name, i, behind)
				}
			}
		}
	}
	if !sameAttrs(a, plainAttrs()) {
		t.Error(a)
	}
}

func TestTheOrderStandsAsMethodExpressionsInATable(t *testing.T) {
	parsed, err := parser.ParseFile(token.NewFileSet(), "../impl/l8_best.go", nil, parser.SkipObjectResolution)
	if err != nil {
		t.Fatal(err)
	}
	methods := map[string]bool{}
	for _, d := range parsed.Decls {
		if f, ok := d.(*ast.FuncDecl); ok && f.Recv != nil {
			if on, ok := f.Recv.List[0].Type.(*ast.Ident); ok {
				methods[on.Name+"."+f.Name.Name] = true
			}
		}
	}
	steps := 0
	ast.Inspect(parsed, func(n ast.Node) bool {
		table, ok := n.(*ast.CompositeLit)
		if !ok {
			return true
		}
		for _, e := range table.Elts {
			if s, ok := e.(*ast.SelectorExpr); ok {
				if on, ok := s.X.(*ast.Ident); ok && methods[on.Name+"."+s.Sel.Name] {
					steps++
				}
			}
		}
		return true
	})
	if steps != 6 {
		t.Error(steps, methods)
	}
}
