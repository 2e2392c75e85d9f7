package tests

import (
	"math/rand"
	"slices"
	"testing"

	"loop.example/g00344/impl"
)

const mostPrefixes = 64

// span is a run of addresses, with both ends.
type span struct{ from, to int }

// spansOf is the tests' own way to tell addresses: runs that rise and do not touch each other.
func spansOf(l []impl.Prefix) []span {
	var all []span
	for _, p := range l {
		all = append(all, span{firstOf(p), lastOf(p)})
	}
	slices.SortFunc(all, func(a, b span) int { return a.from - b.from })
	var joined []span
	for _, s := range all {
		if last := len(joined) - 1; last >= 0 && s.from <= joined[last].to+1 {
			joined[last].to = max(joined[last].to, s.to)
		} else {
			joined = append(joined, s)
		}
	}
	return joined
}

func spansWithout(l []span, cut span) []span {
	var left []span
	for _, s := range l {
		if below := (span{s.from, min(s.to, cut.from-1)}); below.from <= below.to {
			left = append(left, below)
		}
		if above := (span{max(s.from, cut.to+1), s.to}); above.from <= above.to {
			left = append(left, above)
		}
	}
	return left
}

func spansOfBoth(a, b []span) []span {
	var both []span
	for _, s := range a {
		for _, o := range b {
			if meet := (span{max(s.from, o.from), min(s.to, o.to)}); meet.from <= meet.to {
				both = append(both, meet)
			}
		}
	}
	return both
}

// setOfSpans takes, address by address of each run, the shortest prefix that stays within it.
func setOfSpans(l []span) []impl.Prefix {
	var set []impl.Prefix
	for _, s := range l {
		for at := s.from; at <= s.to; {
			length := 0
			for prefixAt(at, length).Addr != at || lastOf(prefixAt(at, length)) > s.to {
				length++
			}
			set = append(set, prefixAt(at, length))
			at = lastOf(prefixAt(at, length)) + 1
		}
	}
	return set
}

// goodSetByWords goes by each word of the document, each one against each other one.
func goodSetByWords(l []impl.Prefix) bool {
	for i, p := range l {
		for j, q := range l {
			if i == j {
				continue
			}
			if order, _ := impl.ComparePrefixes(p, q); (order < 0) != (i < j) || order == 0 {
				return false
			}
			if firstOf(p) <= firstOf(q) && lastOf(q) <= lastOf(p) {
				return false
			}
			if p.Len == q.Len && p.Len > 0 && prefixAt(p.Addr, p.Len-1) == prefixAt(q.Addr, q.Len-1) {
				return false
			}
		}
	}
	return true
}

// rowOf has many prefixes of one length that stand side by side.
func rowOf(addr, length, many int) []impl.Prefix {
	var l []impl.Prefix
	for i := range many {
		l = append(l, prefixAt(addr+i<<(32-length), length))
	}
	return l
}

// stepsOf has the lower half, the lower half of the rest, and so on: with last, they become one on and on.
func stepsOf(last impl.Prefix) []impl.Prefix {
	l := []impl.Prefix{last}
	for length := last.Len; length > 0; length-- {
		l = append(l, prefixAt(last.Addr^1<<(32-length), length))
	}
	return l
}

// mixedPrefixes has some twice, some within others, some that are halves of one.
func mixedPrefixes(many int, seed int64) []impl.Prefix {
	r := rand.New(rand.NewSource(seed))
	var l []impl.Prefix
	for len(l) < many {
		p := prefixAt(r.Intn(1<<32), 1+r.Intn(32))
		if len(l) > 0 && r.Intn(3) > 0 {
			p = l[r.Intn(len(l))]
		}
		switch r.Intn(4) {
		case 0:
			p = prefixAt(p.Addr, min(32, p.Len+r.Intn(4)))
		case 1:
			p = prefixAt(p.Addr^1<<(32-max(1, p.Len)), p.Len)
		case 2:
			p = prefixAt(min(lastAddr, lastOf(p)+1), max(2, p.Len-r.Intn(2)))
		}
		l = append(l, p)
	}
	r.Shuffle(many, func(i, j int) { l[i], l[j] = l[j], l[i] })
	return l
}

// crowded has many prefixes among the first 32 addresses, so that nearly all of them touch.
func crowded(many int, seed int64) []impl.Prefix {
	r := rand.New(rand.NewSource(seed))
	var l []impl.Prefix
	for range many {
		l = append(l, prefixAt(r.Intn(32), 29+r.Intn(4)))
	}
	return l
}

func goodLists() [][]impl.Prefix {
	all := impl.Prefix{}
	l := [][]impl.Prefix{
		nil,
		{},
		{all},
		{all, all},
		{prefixAt(0, 32)},
		{prefixAt(lastAddr, 32)},
		{prefixAt(lastAddr, 32), prefixAt(0, 32)},
		{prefixAt(1<<31, 1), prefixAt(0, 1)},
		{prefixAt(0, 1), prefixAt(3<<30, 2), prefixAt(1<<31, 2)},
		{prefixAt(10<<24, 8), prefixAt(10<<24|5, 32), all},
		{prefixAt(1<<24, 8), prefixAt(2<<24, 8)},                                       // side by side, but of two parents
		{prefixAt(5, 32), prefixAt(6, 32)},                                             // likewise
		{prefixAt(4, 31), prefixAt(6, 32), prefixAt(8, 30)},                            // a gap of one
		{prefixAt(4, 31), prefixAt(6, 32), prefixAt(7, 32), prefixAt(8, 30)},           // and none
		{prefixAt(0, 31), prefixAt(2, 31), prefixAt(4, 32)},                            // halves become one, one stays
		{prefixAt(0, 24), prefixAt(7, 32), prefixAt(1<<8, 24), prefixAt(300, 32)},      // within and halves
		{prefixAt(0, 32), prefixAt(1, 32), prefixAt(2, 31), prefixAt(4, 30), {Len: 0}}, // one that has all others, last
		rowOf(0, 6, mostPrefixes),
		rowOf(0, 6, mostPrefixes-1),
		rowOf(lastAddr-63, 32, mostPrefixes),
		rowOf(1, 32, mostPrefixes),
		rowOf(lastAddr-70, 32, mostPrefixes),
		stepsOf(prefixAt(0, 32)),
		stepsOf(prefixAt(lastAddr, 32)),
		stepsOf(prefixAt(0x5a5a5a5a, 32)),
		stepsOf(prefixAt(0x5a5a5a5a, 32))[1:],
		stepsOf(prefixAt(0x5a5a5a5a, 32))[:32],
		stepsOf(prefixAt(10<<24, 8))[:5],
		append(stepsOf(prefixAt(10<<24, 20)), stepsOf(prefixAt(11<<24, 20))...),
		slices.Repeat([]impl.Prefix{prefixAt(10<<24, 8), prefixAt(10<<24, 9)}, mostPrefixes/2),
	}
	spread := make([]impl.Prefix, 0, mostPrefixes)
	for i := range mostPrefixes {
		spread = append(spread, prefixAt(i<<26|i*i, 32-i%3))
	}
	l = append(l, spread)
	for many := 0; many <= mostPrefixes; many += 4 {
		for seed := range 4 {
			l = append(l, mixedPrefixes(many, int64(many*10+seed)), crowded(many/2, int64(many*20+seed)))
		}
	}
	return l
}

func prefixProbes(l []impl.Prefix) []int {
	var entries []impl.Entry
	for _, p := range l {
		entries = append(entries, impl.Entry{Prefix: p})
	}
	return probesOf(entries)
}

func mustFewest(t *testing.T, l []impl.Prefix) []impl.Prefix {
	t.Helper()
	set, ok := impl.FewestOf(l)
	if !ok {
		t.Fatalf("FewestOf(%v) = %v, %v", l, set, ok)
	}
	return set
}

func isIn(l []impl.Prefix, addr int) bool {
	return slices.ContainsFunc(l, func(p impl.Prefix) bool { return firstOf(p) <= addr && addr <= lastOf(p) })
}

func TestMaxPrefixesIsAsSaid(t *testing.T) {
	if impl.MaxPrefixes != mostPrefixes {
		t.Error(impl.MaxPrefixes)
	}
}

func TestTheFewestHaveTheSameAddresses(t *testing.T) {
	for _, l := range goodLists() {
		set := mustFewest(t, l)
		if !slices.Equal(spansOf(set), spansOf(l)) {
			t.Errorf("FewestOf(%v) = %v", l, set)
		}
		if same, ok := impl.SameAddrs(set, l); !same || !ok {
			t.Errorf("SameAddrs(%v, %v) = %v, %v", set, l, same, ok)
		}
		for _, addr := range append(prefixProbes(l), prefixProbes(set)...) {
			want := isIn(l, addr)
			if has, ok := impl.SetHas(l, addr); has != want || !ok {
				t.Errorf("SetHas(%v, %d) = %v, %v", l, addr, has, ok)
			}
			if has, ok := impl.SetHas(set, addr); has != want || !ok {
				t.Errorf("SetHas(%v, %d) = %v, %v", set, addr, has, ok)
			}
		}
	}
}

func TestTheFewestAreAGoodSet(t *testing.T) {
	for _, l := range goodLists() {
		set := mustFewest(t, l)
		if !goodSetByWords(set) || !impl.GoodSet(set) {
			t.Errorf("FewestOf(%v) = %v: by words %v, GoodSet %v", l, set, goodSetByWords(set), impl.GoodSet(set))
		}
		if want := setOfSpans(spansOf(l)); !slices.Equal(set, want) {
			t.Errorf("FewestOf(%v) = %v, not %v", l, set, want)
		}
		if len(set) > len(l) {
			t.Errorf("FewestOf(%v) = %v: more than there were", l, set)
		}
	}
}

// cutInHalves puts both halves in the place of prefixes as long as there is room.
func cutInHalves(l []impl.Prefix, r *rand.Rand) []impl.Prefix {
	l = slices.Clone(l)
	for i := 0; i < len(l) && len(l) < mostPrefixes; i++ {
		if l[i].Len < 32 && r.Intn(2) == 0 {
			longer := l[i].Len + 1
			l = append(l, prefixAt(lastOf(l[i]), longer))
			l[i] = prefixAt(l[i].Addr, longer)
		}
	}
	return l
}

// putAgain puts some of the prefixes, and some that they have, once more.
func putAgain(l []impl.Prefix, r *rand.Rand) []impl.Prefix {
	l = slices.Clone(l)
	for many := len(l); many > 0 && len(l) < mostPrefixes; {
		p := l[r.Intn(many)]
		l = append(l, prefixAt(p.Addr, p.Len+r.Intn(33-p.Len)))
		if r.Intn(8) == 0 {
			break
		}
	}
	return l
}

func TestTheFewestAreTheSameForAllThatHaveTheseAddresses(t *testing.T) {
	r := rand.New(rand.NewSource(3))
	for _, l := range goodLists() {
		set := mustFewest(t, l)
		for range 4 {
			other := slices.Clone(l)
			r.Shuffle(len(other), func(i, j int) { other[i], other[j] = other[j], other[i] })
			backwards := slices.Clone(l)
			slices.Reverse(backwards)
			for name, o := range map[string][]impl.Prefix{
				"in another order":   other,
				"backwards":          backwards,
				"cut into halves":    cutInHalves(l, r),
				"with some again":    putAgain(other, r),
				"the fewest":         set,
				"the fewest, cut":    cutInHalves(cutInHalves(set, r), r),
				"the fewest, again":  putAgain(set, r),
				"cut, and put again": putAgain(cutInHalves(set, r), r),
			} {
				if got, ok := impl.FewestOf(o); !slices.Equal(got, set) || !ok {
					t.Errorf("%s: FewestOf(%v) = %v, %v, not %v", name, o, got, ok, set)
				}
				if same, ok := impl.SameAddrs(l, o); !same || !ok {
					t.Errorf("%s: SameAddrs(%v, %v) = %v, %v", name, l, o, same, ok)
				}
			}
		}
	}
}

func TestTheFewestThatAreKnown(t *testing.T) {
	all := []impl.Prefix{{}}
	known := []struct{ given, set []impl.Prefix }{
		{nil, nil},
		{[]impl.Prefix{}, nil},
		{all, all},
		{[]impl.Prefix{prefixAt(1<<31, 1), prefixAt(0, 1)}, all},
		{rowOf(0, 6, mostPrefixes), all},
		{stepsOf(prefixAt(0x5a5a5a5a, 32)), all},
		{rowOf(0, 6, mostPrefixes-1), []impl.Prefix{prefixAt(0, 1), prefixAt(1<<31, 2), prefixAt(6<<29, 3), prefixAt(14<<28, 4), prefixAt(30<<27, 5), prefixAt(62<<26, 6)}},
		{rowOf(1<<24, 8, 2), rowOf(1<<24, 8, 2)},
		{rowOf(2<<24, 8, 2), []impl.Prefix{prefixAt(2<<24, 7)}},
		{[]impl.Prefix{prefixAt(9, 32), prefixAt(8, 32), prefixAt(10, 31), prefixAt(9, 32), prefixAt(20, 32)}, []impl.Prefix{prefixAt(8, 30), prefixAt(20, 32)}},
		{[]impl.Prefix{prefixAt(10<<24|7, 32), prefixAt(10<<24, 9), prefixAt(10<<24, 8)}, []impl.Prefix{prefixAt(10<<24, 8)}},
	}
	for _, k := range known {
		if set, ok := impl.FewestOf(k.given); !slices.Equal(set, k.set) || !ok {
			t.Errorf("FewestOf(%v) = %v, %v, not %v", k.given, set, ok, k.set)
		}
	}
}

func TestSameAddrsOfOthers(t *testing.T) {
	for _, l := range goodLists() {
		for _, o := range goodLists() {
			want := slices.Equal(spansOf(l), spansOf(o))
			if same, ok := impl.SameAddrs(l, o); same != want || !ok {
				t.Errorf("SameAddrs(%v, %v) = %v, %v", l, o, same, ok)
			}
		}
	}
}

func TestCountAddrsCountsEachOnce(t *testing.T) {
	for _, l := range goodLists() {
		want := 0
		for _, s := range spansOf(l) {
			want += s.to - s.from + 1
		}
		if many, ok := impl.CountAddrs(l); many != want || !ok {
			t.Errorf("CountAddrs(%v) = %d, %v, not %d", l, many, ok, want)
		}
	}
}

func TestCountsThatAreKnown(t *testing.T) {
	known := []struct {
		l    []impl.Prefix
		many int
	}{
		{nil, 0},
		{[]impl.Prefix{{}}, 1 << 32},
		{slices.Repeat([]impl.Prefix{{}}, mostPrefixes), 1 << 32},
		{rowOf(0, 6, mostPrefixes), 1 << 32},
		{[]impl.Prefix{prefixAt(0, 32)}, 1},
		{[]impl.Prefix{prefixAt(0, 32), prefixAt(0, 32)}, 1},
		{[]impl.Prefix{prefixAt(0, 32), prefixAt(0, 31), prefixAt(lastAddr, 31)}, 4},
		{stepsOf(prefixAt(0, 32))[1:], 1<<32 - 1},
		{[]impl.Prefix{prefixAt(10<<24, 8), prefixAt(10<<24, 9), prefixAt(10<<24|1<<23, 9), prefixAt(11<<24, 32)}, 1<<24 + 1},
	}
	for _, k := range known {
		if many, ok := impl.CountAddrs(k.l); many != k.many || !ok {
			t.Errorf("CountAddrs(%v) = %d, %v, not %d", k.l, many, ok, k.many)
		}
	}
}

func lookAtRange(t *testing.T, from, to int) {
	t.Helper()
	set, ok := impl.RangeOf(from, to)
	if !ok || !goodSetByWords(set) || !impl.GoodSet(set) || !slices.Equal(spansOf(set), []span{{from, to}}) {
		t.Errorf("RangeOf(%d, %d) = %v, %v", from, to, set, ok)
	}
}

func TestRangesHaveAllFromOneToTheOther(t *testing.T) {
	for _, p := range goodPrefixes() {
		one, ok := impl.RangeOf(firstOf(p), firstOf(p))
		if !slices.Equal(one, []impl.Prefix{{Addr: firstOf(p), Len: 32}}) || !ok {
			t.Errorf("RangeOf of one address, %d = %v, %v", firstOf(p), one, ok)
		}
		if set, ok := impl.RangeOf(firstOf(p), lastOf(p)); !slices.Equal(set, []impl.Prefix{p}) || !ok {
			t.Errorf("RangeOf of all of %v = %v, %v", p, set, ok)
		}
		for _, from := range []int{firstOf(p) - 1, firstOf(p), firstOf(p) + 1} {
			for _, to := range []int{lastOf(p) - 1, lastOf(p), lastOf(p) + 1} {
				if from >= 0 && from <= to && to <= lastAddr {
					lookAtRange(t, from, to)
				}
			}
		}
	}
	for from := range 40 {
		for to := from; to < 40; to++ {
			lookAtRange(t, from, to)
			lookAtRange(t, lastAddr-to, lastAddr-from)
		}
	}
	r := rand.New(rand.NewSource(8))
	for range 2000 {
		a, b := r.Intn(1<<32), r.Intn(1<<32)
		lookAtRange(t, min(a, b), max(a, b))
	}
}

func TestRangesThatAreKnown(t *testing.T) {
	known := []struct {
		from, to int
		set      []impl.Prefix
	}{
		{0, lastAddr, []impl.Prefix{{}}},
		{0, 0, []impl.Prefix{prefixAt(0, 32)}},
		{lastAddr, lastAddr, []impl.Prefix{prefixAt(lastAddr, 32)}},
		{5, 9, []impl.Prefix{prefixAt(5, 32), prefixAt(6, 31), prefixAt(8, 31)}},
		{0, 4, []impl.Prefix{prefixAt(0, 30), prefixAt(4, 32)}},
		{1<<31 - 1, 1 << 31, []impl.Prefix{prefixAt(1<<31-1, 32), prefixAt(1<<31, 32)}},
		{1 << 31, lastAddr, []impl.Prefix{prefixAt(1<<31, 1)}},
	}
	for _, k := range known {
		if set, ok := impl.RangeOf(k.from, k.to); !slices.Equal(set, k.set) || !ok {
			t.Errorf("RangeOf(%d, %d) = %v, %v, not %v", k.from, k.to, set, ok, k.set)
		}
	}
	if set, ok := impl.RangeOf(1, lastAddr-1); len(set) != 62 || !ok {
		t.Errorf("the range of the most prefixes: %v, %v", set, ok)
	}
}

// bounded is what a function answers whose good set may be too great.
func bounded(set []impl.Prefix) ([]impl.Prefix, bool) {
	if len(set) > mostPrefixes {
		return nil, false
	}
	return set, true
}

func TestCutPrefixLeavesWhatItHasNot(t *testing.T) {
	for _, l := range goodLists() {
		cuts := append(slices.Clone(l), prefixAt(0, 32), prefixAt(lastAddr, 32), prefixAt(10<<24|7, 32), prefixAt(10<<24, 8), prefixAt(0, 1), impl.Prefix{})
		for _, p := range l {
			cuts = append(cuts, prefixAt(p.Addr, min(32, p.Len+1)), prefixAt(lastOf(p), min(32, p.Len+5)), prefixAt(p.Addr, max(0, p.Len-1)))
		}
		for _, p := range cuts {
			want, wantOk := bounded(setOfSpans(spansWithout(spansOf(l), span{firstOf(p), lastOf(p)})))
			if set, ok := impl.CutPrefix(l, p); !slices.Equal(set, want) || ok != wantOk {
				t.Errorf("CutPrefix(%v, %v) = %v, %v, not %v, %v", l, p, set, ok, want, wantOk)
			}
		}
	}
}

func TestCutsThatAreKnown(t *testing.T) {
	ten := []impl.Prefix{prefixAt(10<<24, 8)}
	known := []struct {
		name string
		l    []impl.Prefix
		p    impl.Prefix
		set  []impl.Prefix
	}{
		{"from none", nil, impl.Prefix{}, nil},
		{"not had", ten, prefixAt(11<<24, 8), ten},
		{"not had, of halves", rowOf(0, 32, 2), prefixAt(2, 31), []impl.Prefix{prefixAt(0, 31)}},
		{"a part", ten, prefixAt(10<<24, 9), []impl.Prefix{prefixAt(10<<24|1<<23, 9)}},
		{"a part within", []impl.Prefix{prefixAt(0, 29)}, prefixAt(2, 32), []impl.Prefix{prefixAt(0, 31), prefixAt(3, 32), prefixAt(4, 30)}},
		{"all of it", ten, prefixAt(10<<24, 8), nil},
		{"more than it", ten, prefixAt(10<<24, 7), nil},
		{"all of all", rowOf(0, 6, mostPrefixes), impl.Prefix{}, nil},
		{"twice there", append(ten, ten...), prefixAt(10<<24, 8), nil},
		{"there within another one", append(ten, prefixAt(10<<24|4, 30)), prefixAt(10<<24|4, 30), mustCut(t, ten[0], prefixAt(10<<24|4, 30))},
		{"one of three", []impl.Prefix{prefixAt(12<<24, 8), prefixAt(8<<24, 8), prefixAt(10<<24, 8)}, prefixAt(10<<24, 8), []impl.Prefix{prefixAt(8<<24, 8), prefixAt(12<<24, 8)}},
		{"one address of all", []impl.Prefix{{}}, prefixAt(0, 32), stepsRising(prefixAt(0, 32))},
	}
	for _, k := range known {
		if set, ok := impl.CutPrefix(k.l, k.p); !slices.Equal(set, k.set) || !ok {
			t.Errorf("%s: CutPrefix(%v, %v) = %v, %v, not %v", k.name, k.l, k.p, set, ok, k.set)
		}
	}
}

func mustCut(t *testing.T, q, p impl.Prefix) []impl.Prefix {
	t.Helper()
	lower, ok := impl.RangeOf(firstOf(q), firstOf(p)-1)
	upper, ok2 := impl.RangeOf(lastOf(p)+1, lastOf(q))
	if !ok || !ok2 {
		t.Fatal(q, p)
	}
	return append(lower, upper...)
}

// stepsRising are all addresses but those of a prefix.
func stepsRising(p impl.Prefix) []impl.Prefix {
	l := stepsOf(p)[1:]
	slices.SortFunc(l, func(a, b impl.Prefix) int { return a.Addr - b.Addr })
	return l
}

// apart has many prefixes of Len 32, no two of them side by side.
func apart(addr, many int) []impl.Prefix {
	var l []impl.Prefix
	for i := range many {
		l = append(l, prefixAt(addr+2*i, 32))
	}
	return l
}

func TestCutPrefixMeetsTheMostExactly(t *testing.T) {
	whole := prefixAt(1<<31, 8)
	for extra := range 33 {
		for _, depth := range []int{0, 1, 8, 24} {
			l := append(apart(0, extra), whole)
			l = append(l, apart(1<<20, 40)...)
			if len(l) > mostPrefixes {
				continue
			}
			set, ok := impl.CutPrefix(l, prefixAt(whole.Addr, whole.Len+depth))
			many := extra + 40 + depth
			if wantOk := many <= mostPrefixes; ok != wantOk || wantOk && len(set) != many || !wantOk && len(set) != 0 {
				t.Errorf("with %d, a cut of depth %d: %d prefixes, %v", extra, depth, len(set), ok)
			}
		}
	}
	full := append(apart(0, mostPrefixes-1), whole)
	if set, ok := impl.CutPrefix(full, prefixAt(whole.Addr, whole.Len+2)); len(set) != 0 || ok {
		t.Errorf("one more than MaxPrefixes: %v, %v", set, ok)
	}
	if set, ok := impl.CutPrefix(full, prefixAt(whole.Addr, whole.Len+1)); len(set) != mostPrefixes || !ok {
		t.Errorf("as many as MaxPrefixes: %v, %v", set, ok)
	}
	if set, ok := impl.CutPrefix(full, prefixAt(1<<30, 8)); len(set) != mostPrefixes || !ok {
		t.Errorf("as many as MaxPrefixes, nothing cut: %v, %v", set, ok)
	}
}

func TestMeetSetsHasWhatBothHave(t *testing.T) {
	for _, l := range goodLists() {
		for _, o := range goodLists() {
			want, wantOk := bounded(setOfSpans(spansOfBoth(spansOf(l), spansOf(o))))
			if set, ok := impl.MeetSets(l, o); !slices.Equal(set, want) || ok != wantOk {
				t.Errorf("MeetSets(%v, %v) = %v, %v, not %v, %v", l, o, set, ok, want, wantOk)
			}
		}
	}
}

func TestMeetsThatAreKnown(t *testing.T) {
	ten := []impl.Prefix{prefixAt(10<<24, 8)}
	known := []struct {
		name      string
		a, b, set []impl.Prefix
	}{
		{"none and none", nil, nil, nil},
		{"none and all", nil, []impl.Prefix{{}}, nil},
		{"nothing in common", ten, []impl.Prefix{prefixAt(11<<24, 8)}, nil},
		{"one within the other", ten, []impl.Prefix{prefixAt(10<<24|1<<16, 16)}, []impl.Prefix{prefixAt(10<<24|1<<16, 16)}},
		{"all and one", []impl.Prefix{{}}, ten, ten},
		{"the same", ten, ten, ten},
		{"the same in halves", rowOf(10<<24, 9, 2), rowOf(10<<24, 10, 4), ten},
		{"the same in order", rowOf(1, 32, 3), []impl.Prefix{prefixAt(3, 32), prefixAt(1, 32), prefixAt(2, 32)}, []impl.Prefix{prefixAt(1, 32), prefixAt(2, 31)}},
		{"some twice", append(ten, ten...), append(ten, ten...), ten},
		{"parts of two", rowOf(0, 8, 2), []impl.Prefix{prefixAt(1<<24, 7), prefixAt(1<<24|1<<20, 12), prefixAt(3, 32)}, []impl.Prefix{prefixAt(0, 7)}},
		{"crosswise", []impl.Prefix{prefixAt(0, 24), prefixAt(1<<8|3, 32)}, []impl.Prefix{prefixAt(3, 32), prefixAt(1<<8, 24)}, []impl.Prefix{prefixAt(3, 32), prefixAt(1<<8|3, 32)}},
	}
	for _, k := range known {
		if set, ok := impl.MeetSets(k.a, k.b); !slices.Equal(set, k.set) || !ok {
			t.Errorf("%s: MeetSets(%v, %v) = %v, %v, not %v", k.name, k.a, k.b, set, ok, k.set)
		}
		if set, ok := impl.MeetSets(k.b, k.a); !slices.Equal(set, k.set) || !ok {
			t.Errorf("%s: MeetSets(%v, %v) = %v, %v, not %v", k.name, k.b, k.a, set, ok, k.set)
		}
	}
}

func TestMeetSetsMeetsTheMostExactly(t *testing.T) {
	lowHalf, highHalf := prefixAt(0, 1), prefixAt(1<<31, 1)
	for _, low := range []int{1, 10, 31, 32, 33, 62, 63} {
		for _, high := range []int{1, 2, 31, 32, 33, 54, 55, 63} {
			a := append(apart(0, low), highHalf)
			b := append(apart(1<<31, high), lowHalf)
			set, ok := impl.MeetSets(a, b)
			many := low + high
			if wantOk := many <= mostPrefixes; ok != wantOk || wantOk && len(set) != many || !wantOk && len(set) != 0 {
				t.Errorf("%d and %d: %d prefixes, %v", low, high, len(set), ok)
			}
		}
	}
}

func TestGoodSetsAndOthersByWords(t *testing.T) {
	for _, l := range goodLists() {
		if impl.GoodSet(l) != goodSetByWords(l) {
			t.Errorf("GoodSet(%v) = %v", l, impl.GoodSet(l))
		}
		set := mustFewest(t, l)
		for i, p := range set {
			if less := slices.Delete(slices.Clone(set), i, i+1); !impl.GoodSet(less) {
				t.Errorf("GoodSet(%v) is false", less)
			}
			if len(set) == mostPrefixes {
				continue
			}
			for _, more := range []impl.Prefix{p, prefixAt(p.Addr, min(32, p.Len+3)), prefixAt(p.Addr, max(0, p.Len-1)), prefixAt(p.Addr^1<<(32-max(1, p.Len)), p.Len), prefixAt(min(lastAddr, lastOf(p)+1), p.Len)} {
				for _, at := range []int{i, i + 1, len(set)} {
					if grown := slices.Insert(slices.Clone(set), at, more); impl.GoodSet(grown) != goodSetByWords(grown) {
						t.Errorf("GoodSet(%v) = %v", grown, impl.GoodSet(grown))
					}
				}
			}
		}
	}
}

func TestGoodSetsThatAreKnown(t *testing.T) {
	for name, l := range map[string][]impl.Prefix{
		"none":                            nil,
		"an empty list":                   {},
		"all":                             {{}},
		"64 prefixes":                     apart(0, mostPrefixes),
		"side by side, of two parents":    rowOf(1, 32, 2),
		"three of the four quarters":      {prefixAt(0, 1), prefixAt(1<<31, 2)},
		"both ends":                       {prefixAt(0, 32), prefixAt(lastAddr, 32)},
		"a half, and the other one's end": {prefixAt(0, 31), prefixAt(3, 32)},
	} {
		if !impl.GoodSet(l) {
			t.Errorf("%s: GoodSet(%v) is false", name, l)
		}
	}
	for name, l := range map[string][]impl.Prefix{
		"65 prefixes":                  apart(0, mostPrefixes+1),
		"falling by Addr":              {prefixAt(11<<24, 8), prefixAt(9<<24, 8)},
		"falling at the end":           {prefixAt(1, 32), prefixAt(9, 32), prefixAt(5, 32)},
		"one twice":                    {prefixAt(10<<24, 8), prefixAt(10<<24, 8)},
		"all twice":                    {{}, {}},
		"one that has another one":     {prefixAt(10<<24, 8), prefixAt(10<<24|1<<16, 16)},
		"of one Addr":                  {prefixAt(10<<24, 8), prefixAt(10<<24, 9)},
		"of one Addr, falling by Len":  {prefixAt(10<<24, 9), prefixAt(10<<24, 8)},
		"one that has the last one":    {prefixAt(0, 8), prefixAt(5, 32), prefixAt(1<<24-1, 32)},
		"had by the last one":          {prefixAt(5, 32), prefixAt(8, 29), prefixAt(8, 32)},
		"halves":                       {prefixAt(0, 1), prefixAt(1<<31, 1)},
		"halves of Len 32":             {prefixAt(8, 32), prefixAt(9, 32)},
		"halves at the end":            {prefixAt(0, 32), prefixAt(10<<24, 9), prefixAt(10<<24|1<<23, 9)},
		"halves backwards":             {prefixAt(9, 32), prefixAt(8, 32)},
		"halves with one between them": {prefixAt(8, 31), prefixAt(9, 32), prefixAt(10, 31)},
	} {
		if impl.GoodSet(l) {
			t.Errorf("%s: GoodSet(%v)", name, l)
		}
	}
}

func badLists() [][]impl.Prefix {
	l := [][]impl.Prefix{
		apart(0, mostPrefixes+1),
		rowOf(0, 32, mostPrefixes+1),
		make([]impl.Prefix, mostPrefixes+1),
		make([]impl.Prefix, 1000),
	}
	for _, p := range badPrefixes() {
		l = append(l,
			[]impl.Prefix{p},
			[]impl.Prefix{p, {}},
			[]impl.Prefix{{}, p},
			[]impl.Prefix{prefixAt(0, 32), p, prefixAt(lastAddr, 32)},
			append(apart(1<<20, mostPrefixes-1), p))
	}
	return l
}

func TestListsThatAreNotGood(t *testing.T) {
	good := []impl.Prefix{{}}
	for _, l := range badLists() {
		if impl.GoodSet(l) {
			t.Errorf("GoodSet(%v)", l)
		}
		if set, ok := impl.FewestOf(l); len(set) != 0 || ok {
			t.Errorf("FewestOf(%v) = %v, %v", l, set, ok)
		}
		if set, ok := impl.CutPrefix(l, prefixAt(0, 1)); len(set) != 0 || ok {
			t.Errorf("CutPrefix(%v) = %v, %v", l, set, ok)
		}
		if set, ok := impl.CutPrefix(l, impl.Prefix{}); len(set) != 0 || ok {
			t.Errorf("CutPrefix(%v) of all = %v, %v", l, set, ok)
		}
		if many, ok := impl.CountAddrs(l); many != 0 || ok {
			t.Errorf("CountAddrs(%v) = %d, %v", l, many, ok)
		}
		for _, addr := range []int{0, 5, lastAddr, -1, lastAddr + 1} {
			if has, ok := impl.SetHas(l, addr); has || ok {
				t.Errorf("SetHas(%v, %d) = %v, %v", l, addr, has, ok)
			}
		}
		for _, pair := range [][2][]impl.Prefix{{l, good}, {good, l}, {l, l}, {nil, l}, {l, nil}} {
			if same, ok := impl.SameAddrs(pair[0], pair[1]); same || ok {
				t.Errorf("SameAddrs(%v, %v) = %v, %v", pair[0], pair[1], same, ok)
			}
			if set, ok := impl.MeetSets(pair[0], pair[1]); len(set) != 0 || ok {
				t.Errorf("MeetSets(%v, %v) = %v, %v", pair[0], pair[1], set, ok)
			}
		}
	}
}

func TestCutPrefixOfWhatIsNotGood(t *testing.T) {
	for _, p := range badPrefixes() {
		for _, l := range [][]impl.Prefix{nil, {{}}, {prefixAt(10<<24, 8), prefixAt(0, 32)}} {
			if set, ok := impl.CutPrefix(l, p); len(set) != 0 || ok {
				t.Errorf("CutPrefix(%v, %v) = %v, %v", l, p, set, ok)
			}
		}
	}
}

func TestSetHasAtAddressesThatAreNone(t *testing.T) {
	for _, addr := range badAddrs() {
		for _, l := range [][]impl.Prefix{nil, {{}}, {prefixAt(0, 32), prefixAt(lastAddr, 32)}} {
			if has, ok := impl.SetHas(l, addr); has || ok {
				t.Errorf("SetHas(%v, %d) = %v, %v", l, addr, has, ok)
			}
		}
	}
}

func TestRangesThatAreNone(t *testing.T) {
	bad := [][2]int{{1, 0}, {lastAddr, 0}, {lastAddr, lastAddr - 1}, {1 << 31, 1<<31 - 1}}
	for _, addr := range badAddrs() {
		bad = append(bad, [2]int{addr, addr}, [2]int{0, addr}, [2]int{addr, 0}, [2]int{addr, lastAddr}, [2]int{lastAddr, addr})
	}
	for _, b := range bad {
		if set, ok := impl.RangeOf(b[0], b[1]); len(set) != 0 || ok {
			t.Errorf("RangeOf(%d, %d) = %v, %v", b[0], b[1], set, ok)
		}
	}
}

// callAll calls each function that takes lists, and writes into what they answer.
func callAll(t *testing.T, a, b []impl.Prefix, behind impl.Prefix) {
	t.Helper()
	impl.GoodSet(a)
	impl.SameAddrs(a, b)
	impl.CountAddrs(a)
	impl.SetHas(a, lastAddr)
	few, _ := impl.FewestOf(a)
	apartFrom, _ := impl.CutPrefix(a, prefixAt(10<<24, 8))
	uncut, _ := impl.CutPrefix(a, prefixAt(77<<24|9, 32))
	meet, _ := impl.MeetSets(a, b)
	whole, _ := impl.MeetSets(a, a)
	for _, set := range [][]impl.Prefix{few, apartFrom, uncut, meet, whole} {
		if slices.Contains(set[:cap(set)], behind) {
			t.Errorf("of %v and %v: %v hands out what lies behind", a, b, set[:cap(set)])
		}
		overwrite(set, impl.Prefix{Addr: -9, Len: -9})
	}
}

func TestListsAreNotWrittenIntoNorShared(t *testing.T) {
	lists := append(goodLists(), badLists()...)
	for i, l := range lists {
		behind := impl.Prefix{Addr: -7, Len: 99}
		a := withBehind(l, behind)
		b := withBehind(lists[(i+5)%len(lists)], behind)
		allA, allB := slices.Clone(a[:cap(a)]), slices.Clone(b[:cap(b)])
		callAll(t, a, b, behind)
		if !slices.Equal(a[:cap(a)], allA) || !slices.Equal(b[:cap(b)], allB) {
			t.Errorf("%v became %v; %v became %v", allA, a[:cap(a)], allB, b[:cap(b)])
		}
	}
}

func TestWhatLiesBehindAListIsNotRead(t *testing.T) {
	behind := prefixAt(77<<24|8, 32)
	for _, l := range goodLists() {
		given := withBehind(l, behind)
		if impl.GoodSet(given) != impl.GoodSet(slices.Clip(l)) {
			t.Errorf("GoodSet(%v) = %v", l, impl.GoodSet(given))
		}
		if set, ok := impl.FewestOf(given); !slices.Equal(set, mustFewest(t, l)) || !ok {
			t.Errorf("FewestOf(%v) = %v, %v", l, set, ok)
		}
		if set, ok := impl.MeetSets(given, given); !slices.Equal(set, mustFewest(t, l)) || !ok {
			t.Errorf("MeetSets(%v) of itself = %v, %v", l, set, ok)
		}
		less, lessOk := impl.CutPrefix(slices.Clip(l), prefixAt(0, 8))
		if set, ok := impl.CutPrefix(given, prefixAt(0, 8)); !slices.Equal(set, less) || ok != lessOk {
			t.Errorf("CutPrefix(%v) = %v, %v, not %v, %v", l, set, ok, less, lessOk)
		}
		many, _ := impl.CountAddrs(slices.Clip(l))
		if got, ok := impl.CountAddrs(given); got != many || !ok {
			t.Errorf("CountAddrs(%v) = %d, %v, not %d", l, got, ok, many)
		}
		if has, ok := impl.SetHas(given, behind.Addr); has != isIn(l, behind.Addr) || !ok {
			t.Errorf("SetHas(%v) = %v, %v", l, has, ok)
		}
		if same, ok := impl.SameAddrs(given, l); !same || !ok {
			t.Errorf("SameAddrs(%v) = %v, %v", l, same, ok)
		}
	}
	if !impl.GoodSet(apart(0, mostPrefixes+1)[:mostPrefixes]) {
		t.Error("a prefix behind the length was counted")
	}
}

func TestTwoAnswersShareNoMemory(t *testing.T) {
	for _, l := range goodLists() {
		first := mustFewest(t, l)
		kept := slices.Clone(first)
		overwrite(mustFewest(t, l), impl.Prefix{Addr: -9, Len: -9})
		again, _ := impl.FewestOf(first)
		overwrite(again, impl.Prefix{Addr: -9, Len: -9})
		if !slices.Equal(first, kept) {
			t.Errorf("%v became %v", kept, first)
		}
	}
	ranged, _ := impl.RangeOf(5, 900)
	kept := slices.Clone(ranged)
	other, _ := impl.RangeOf(5, 900)
	overwrite(other, impl.Prefix{Addr: -9, Len: -9})
	if !slices.Equal(ranged, kept) {
		t.Errorf("%v became %v", kept, ranged)
	}
}
