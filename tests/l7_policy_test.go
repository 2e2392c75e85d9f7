package tests

import (
	"fmt"
	"go/ast"
	"go/parser"
	"go/token"
	"math"
	"math/rand"
	"slices"
	"testing"

	"loop.example/g00344/impl"
)

const mostTerms = 8
const mostActs = 5
const mostRanges = 6

func sameRoute(a, b impl.Route) bool {
	return a.Prefix == b.Prefix && sameAttrs(a.Attrs, b.Attrs)
}

func sameRoutes(a, b []impl.Route) bool {
	return slices.EqualFunc(a, b, sameRoute)
}

func isZeroRoute(r impl.Route) bool {
	return sameRoute(r, impl.Route{})
}

func sameTerm(a, b impl.Term) bool {
	return slices.Equal(a.Ranges, b.Ranges) && slices.Equal(a.Path, b.Path) && a.Comm == b.Comm && slices.Equal(a.Acts, b.Acts) && a.Verdict == b.Verdict
}

func samePolicy(a, b impl.Policy) bool {
	return slices.EqualFunc(a.Terms, b.Terms, sameTerm) && a.Accept == b.Accept
}

func isZeroPolicy(p impl.Policy) bool {
	return samePolicy(p, impl.Policy{})
}

func TestLimitsOfPoliciesAreAsSaid(t *testing.T) {
	if impl.MaxTerms != mostTerms || impl.MaxActs != mostActs {
		t.Error(impl.MaxTerms, impl.MaxActs)
	}
	verdicts := []int{impl.VerdictNext, impl.VerdictAccept, impl.VerdictReject}
	kinds := []int{impl.ActPref, impl.ActMed, impl.ActAdd, impl.ActDrop, impl.ActPrepend}
	if !slices.Equal(verdicts, []int{0, 1, 2}) || !slices.Equal(kinds, []int{1, 2, 3, 4, 5}) {
		t.Error(verdicts, kinds)
	}
}

// fitsByWords holds ranges against the prefix by their first and last addresses.
func fitsByWords(t impl.Term, r impl.Route) bool {
	inRange := len(t.Ranges) == 0
	for _, g := range t.Ranges {
		has := firstOf(g.Prefix) <= firstOf(r.Prefix) && lastOf(r.Prefix) <= lastOf(g.Prefix)
		inRange = inRange || has && r.Prefix.Len >= g.Lo && r.Prefix.Len <= g.Hi
	}
	isRow := len(t.Path) == 0 || matchByWords(t.Path, r.Attrs.Path)
	hasComm := t.Comm == -1 || slices.Index(r.Attrs.Comms, t.Comm) >= 0
	return inRange && isRow && hasComm
}

// actByWords goes by sets of communities, and asks for the bounds at the end.
func actByWords(a impl.Act, r impl.Route) (impl.Route, bool) {
	r.Attrs.Path = slices.Clone(r.Attrs.Path)
	comms := map[int]bool{}
	for _, c := range r.Attrs.Comms {
		comms[c] = true
	}
	if a.Kind == impl.ActPref {
		r.Attrs.Pref = a.N
	} else if a.Kind == impl.ActMed {
		r.Attrs.Med = a.N
	} else if a.Kind == impl.ActPrepend {
		r.Attrs.Path = append([]int{a.N}, r.Attrs.Path...)
	} else {
		comms[a.N] = a.Kind == impl.ActAdd
	}
	r.Attrs.Comms = nil
	for c, is := range comms {
		if is {
			r.Attrs.Comms = append(r.Attrs.Comms, c)
		}
	}
	slices.Sort(r.Attrs.Comms)
	if len(r.Attrs.Path) > mostPath || len(r.Attrs.Comms) > mostComms {
		return impl.Route{}, false
	}
	return r, true
}

// applyByWords looks at the terms one after the other; whoever rejects has the zero route.
func applyByWords(p impl.Policy, r impl.Route) (impl.Route, int) {
	for i := 0; i < len(p.Terms); i++ {
		if !fitsByWords(p.Terms[i], r) {
			continue
		}
		for _, a := range p.Terms[i].Acts {
			if then, ok := actByWords(a, r); ok {
				r = then
			}
		}
		if p.Terms[i].Verdict == impl.VerdictReject {
			return impl.Route{}, impl.VerdictReject
		}
		if p.Terms[i].Verdict == impl.VerdictAccept {
			return r, impl.VerdictAccept
		}
	}
	if !p.Accept {
		return impl.Route{}, impl.VerdictReject
	}
	return r, impl.VerdictAccept
}

func lookAtApply(t *testing.T, p impl.Policy, r, want impl.Route, wantVerdict int) {
	t.Helper()
	if got, verdict, ok := impl.ApplyPolicy(p, r); !sameRoute(got, want) || verdict != wantVerdict || !ok {
		t.Errorf("ApplyPolicy(%v, %v) = %v, %v, %v, not %v, %v", p, r, got, verdict, ok, want, wantVerdict)
	}
}

func tenNet(length int) impl.Prefix {
	return prefixAt(10<<24|1<<16|2<<8|3, length)
}

func plainRoute() impl.Route {
	return impl.Route{Prefix: tenNet(16), Attrs: impl.Attrs{Origin: 1, Path: []int{3}, Next: 5, Med: 2, Pref: 100, Comms: []int{5, 9}}}
}

func fullRoute() impl.Route {
	return impl.Route{Prefix: prefixAt(lastAddr, 32), Attrs: fullAttrs()}
}

func goodRoutes() []impl.Route {
	l := []impl.Route{{}, plainRoute(), fullRoute()}
	for _, p := range goodPrefixes() {
		l = append(l, impl.Route{Prefix: p, Attrs: plainAttrs()})
	}
	for i, a := range goodAttrs() {
		l = append(l, impl.Route{Prefix: tenNet(i % 33), Attrs: a})
	}
	return l
}

func badRoutes() []impl.Route {
	var l []impl.Route
	for _, p := range badPrefixes() {
		l = append(l, impl.Route{Prefix: p}, impl.Route{Prefix: p, Attrs: plainAttrs()})
	}
	for _, a := range badAttrs() {
		l = append(l, impl.Route{Attrs: a}, impl.Route{Prefix: tenNet(16), Attrs: a})
	}
	return append(l, impl.Route{Prefix: badPrefixes()[0], Attrs: badAttrs()[0]})
}

// mixedRoute has few numbers and nets, so that terms fit it often.
func mixedRoute(r *rand.Rand) impl.Route {
	a := impl.Attrs{Origin: r.Intn(3), Next: r.Intn(1 << 32), Med: r.Intn(3), Pref: r.Intn(3)}
	a.Path = mixedPath(r.Intn(mostPath+1), r)
	if r.Intn(3) == 0 {
		a.Path = mixedPath(mostPath-r.Intn(2), r)
	}
	for _, c := range []int{0, 3, 4, 5, 6, 9, mostValue} {
		if len(a.Comms) < mostComms && r.Intn(3) > 0 {
			a.Comms = append(a.Comms, c)
		}
	}
	return impl.Route{Prefix: mixedNet(r), Attrs: a}
}

func mixedNet(r *rand.Rand) impl.Prefix {
	return prefixAt([]int{0, 10 << 24, 10<<24 | 1<<16, 11 << 24, lastAddr}[r.Intn(5)], []int{0, 8, 15, 16, 17, 24, 32}[r.Intn(7)])
}

func mixedRange(r *rand.Rand) impl.Range {
	p := mixedNet(r)
	lo := p.Len + r.Intn(33-p.Len)
	return impl.Range{Prefix: p, Lo: lo, Hi: lo + r.Intn(33-lo)}
}

func mixedAct(r *rand.Rand) impl.Act {
	kind := 1 + r.Intn(5)
	if kind == impl.ActPrepend {
		return impl.Act{Kind: kind, N: mixedPath(1, r)[0]}
	}
	return impl.Act{Kind: kind, N: []int{0, 3, 4, 5, 6, 9, mostValue}[r.Intn(7)]}
}

func mixedTerm(r *rand.Rand) impl.Term {
	t := impl.Term{Comm: -1, Verdict: []int{0, 0, 0, 1, 2}[r.Intn(5)]}
	for range r.Intn(mostRanges+1) * r.Intn(2) {
		t.Ranges = append(t.Ranges, mixedRange(r))
	}
	if r.Intn(3) == 0 {
		t.Path = mixedPattern(1+r.Intn(12), r)
	}
	if r.Intn(3) == 0 {
		t.Comm = []int{0, 3, 4, 5, 6, 9, mostValue}[r.Intn(7)]
	}
	for range r.Intn(mostActs + 1) {
		t.Acts = append(t.Acts, mixedAct(r))
	}
	return t
}

func mixedPolicy(many int, r *rand.Rand) impl.Policy {
	p := impl.Policy{Accept: r.Intn(2) == 0}
	for range many {
		p.Terms = append(p.Terms, mixedTerm(r))
	}
	return p
}

// handsOn makes of a policy one that ThenPolicy takes as its first.
func handsOn(p impl.Policy) impl.Policy {
	own := impl.Policy{Accept: true}
	for _, t := range p.Terms {
		if t.Verdict == impl.VerdictAccept {
			t.Verdict = impl.VerdictNext
		}
		own.Terms = append(own.Terms, t)
	}
	return own
}

// fullTerm has as much of all as there may be.
func fullTerm() impl.Term {
	return impl.Term{
		Ranges:  slices.Repeat([]impl.Range{{Prefix: prefixAt(lastAddr, 32), Lo: 32, Hi: 32}}, mostRanges),
		Path:    repeated(starCell, mostCells-1, "any"),
		Comm:    mostValue,
		Acts:    slices.Repeat([]impl.Act{{Kind: impl.ActPrepend, N: mostAsn}}, mostActs),
		Verdict: impl.VerdictReject,
	}
}

func policyOf(accept bool, terms ...impl.Term) impl.Policy {
	return impl.Policy{Terms: terms, Accept: accept}
}

func goodTerms() []impl.Term {
	l := []impl.Term{
		{},
		{Comm: -1},
		{Comm: mostValue},
		{Comm: -1, Verdict: impl.VerdictAccept},
		{Comm: -1, Verdict: impl.VerdictReject},
		{Ranges: []impl.Range{}, Path: []impl.ReCell{}, Acts: []impl.Act{}},
		{Ranges: []impl.Range{{}}},
		{Ranges: []impl.Range{{Lo: 32, Hi: 32}}},
		{Ranges: []impl.Range{{Hi: 32}, {Prefix: tenNet(8), Lo: 8, Hi: 8}}},
		{Ranges: []impl.Range{{Prefix: tenNet(8), Lo: 8, Hi: 32}}},
		fullTerm(),
	}
	for _, path := range goodPatterns() {
		l = append(l, impl.Term{Path: path, Comm: -1})
	}
	for _, a := range goodActs() {
		l = append(l, impl.Term{Comm: -1, Acts: []impl.Act{a}}, impl.Term{Comm: 5, Acts: []impl.Act{{Kind: impl.ActPref}, a}})
	}
	return l
}

func goodActs() []impl.Act {
	var l []impl.Act
	for _, kind := range []int{impl.ActPref, impl.ActMed, impl.ActAdd, impl.ActDrop} {
		for _, n := range []int{0, 1, 5, 9, mostAsn, mostAsn + 1, mostValue - 1, mostValue} {
			l = append(l, impl.Act{Kind: kind, N: n})
		}
	}
	for _, n := range []int{1, 2, 3, mostAsn - 1, mostAsn} {
		l = append(l, impl.Act{Kind: impl.ActPrepend, N: n})
	}
	return l
}

func badActs() []impl.Act {
	var l []impl.Act
	for _, kind := range []int{0, -1, 6, 7, 256 + impl.ActPref, 1<<32 + impl.ActMed, math.MinInt, math.MaxInt} {
		l = append(l, impl.Act{Kind: kind}, impl.Act{Kind: kind, N: 1}, impl.Act{Kind: kind, N: -1})
	}
	for _, kind := range []int{impl.ActPref, impl.ActMed, impl.ActAdd, impl.ActDrop} {
		for _, n := range []int{-1, mostValue + 1, 1 << 32, math.MinInt, math.MaxInt} {
			l = append(l, impl.Act{Kind: kind, N: n})
		}
	}
	for _, n := range append(badAsns(), mostValue) {
		l = append(l, impl.Act{Kind: impl.ActPrepend, N: n})
	}
	return l
}

func badRanges() map[string]impl.Range {
	all := map[string]impl.Range{
		"Lo below Len":           {Prefix: tenNet(8), Lo: 7, Hi: 32},
		"Lo 0":                   {Prefix: tenNet(8), Hi: 32},
		"Lo below 0":             {Lo: -1, Hi: 32},
		"Lo and Hi below 0":      {Lo: -2, Hi: -1},
		"Hi below Lo":            {Prefix: tenNet(8), Lo: 17, Hi: 16},
		"Hi below Len":           {Prefix: tenNet(8), Lo: 8, Hi: 7},
		"Hi 0":                   {Prefix: tenNet(8), Lo: 8},
		"Hi 33":                  {Prefix: tenNet(8), Lo: 8, Hi: 33},
		"Lo and Hi 33":           {Prefix: tenNet(8), Lo: 33, Hi: 33},
		"Hi far too great":       {Prefix: tenNet(8), Lo: 8, Hi: math.MaxInt},
		"Lo far too small":       {Prefix: tenNet(8), Lo: math.MinInt, Hi: 8},
		"Hi far too small":       {Prefix: tenNet(8), Lo: 8, Hi: math.MinInt},
		"Lo and Hi at both ends": {Lo: math.MinInt, Hi: math.MaxInt},
	}
	for i, p := range badPrefixes() {
		all[fmt.Sprintf("prefix %d: %v", i, p)] = impl.Range{Prefix: p, Lo: 32, Hi: 32}
		all[fmt.Sprintf("prefix %d: %v by its Len", i, p)] = impl.Range{Prefix: p, Lo: p.Len, Hi: p.Len}
	}
	return all
}

// badTerms has what is not good, each by one fault alone.
func badTerms() map[string]impl.Term {
	all := map[string]impl.Term{}
	with := func(name string, change func(t *impl.Term)) {
		for i, t := range []impl.Term{{}, {Comm: -1, Verdict: impl.VerdictAccept}, fullTerm()} {
			change(&t)
			all[fmt.Sprintf("%s, at term %d", name, i)] = t
		}
	}
	plain := impl.Range{Prefix: tenNet(8), Lo: 8, Hi: 24}
	with("7 Ranges", func(t *impl.Term) { t.Ranges = slices.Repeat([]impl.Range{plain}, mostRanges+1) })
	with("far too many Ranges", func(t *impl.Term) { t.Ranges = slices.Repeat([]impl.Range{plain}, 5000) })
	for name, g := range badRanges() {
		with(name+", alone", func(t *impl.Term) { t.Ranges = []impl.Range{g} })
		with(name+", last", func(t *impl.Term) { t.Ranges = []impl.Range{plain, plain, g} })
		with(name+", first", func(t *impl.Term) { t.Ranges = []impl.Range{g, plain} })
	}
	for name, path := range badPatterns() {
		if len(path) > 0 {
			with(name, func(t *impl.Term) { t.Path = path })
		}
	}
	for _, n := range []int{-2, mostValue + 1, 1 << 32, math.MinInt, math.MaxInt} {
		with(fmt.Sprintf("Comm %d", n), func(t *impl.Term) { t.Comm = n })
	}
	for _, n := range []int{-1, 3, 4, 256 + impl.VerdictAccept, 1 << 32, math.MinInt, math.MaxInt} {
		with(fmt.Sprintf("Verdict %d", n), func(t *impl.Term) { t.Verdict = n })
	}
	add := impl.Act{Kind: impl.ActAdd, N: 5}
	with("6 Acts", func(t *impl.Term) { t.Acts = slices.Repeat([]impl.Act{add}, mostActs+1) })
	with("far too many Acts", func(t *impl.Term) { t.Acts = slices.Repeat([]impl.Act{add}, 5000) })
	for _, a := range badActs() {
		with(fmt.Sprintf("act %v, alone", a), func(t *impl.Term) { t.Acts = []impl.Act{a} })
		with(fmt.Sprintf("act %v, last", a), func(t *impl.Term) { t.Acts = []impl.Act{add, add, add, add, a} })
		with(fmt.Sprintf("act %v, first", a), func(t *impl.Term) { t.Acts = []impl.Act{a, add} })
	}
	return all
}

func goodPolicies() []impl.Policy {
	l := []impl.Policy{{}, {Accept: true}, {Terms: []impl.Term{}}, policyOf(true, slices.Repeat([]impl.Term{fullTerm()}, mostTerms)...)}
	for _, t := range goodTerms() {
		l = append(l, policyOf(true, t), policyOf(false, impl.Term{Comm: 5}, t))
	}
	r := rand.New(rand.NewSource(7))
	for many := range mostTerms + 1 {
		for range 8 {
			l = append(l, mixedPolicy(many, r))
		}
	}
	return l
}

func badPolicies() map[string]impl.Policy {
	all := map[string]impl.Policy{
		"9 terms":                        policyOf(true, slices.Repeat([]impl.Term{{Comm: -1}}, mostTerms+1)...),
		"9 terms, the first one accepts": policyOf(false, append([]impl.Term{{Comm: -1, Verdict: 1}}, slices.Repeat([]impl.Term{{Comm: -1}}, mostTerms)...)...),
		"far too many terms":             policyOf(true, make([]impl.Term, 5000)...),
	}
	for name, t := range badTerms() {
		all[name+", alone"] = policyOf(true, t)
		all[name+", behind one that accepts"] = policyOf(false, impl.Term{Comm: -1, Verdict: impl.VerdictAccept}, t)
		all[name+", ahead of one that accepts"] = policyOf(false, t, impl.Term{Comm: -1, Verdict: impl.VerdictAccept})
	}
	return all
}

func TestRoutesAreGoodByTheirWords(t *testing.T) {
	for _, r := range goodRoutes() {
		if !impl.GoodRoute(r) {
			t.Errorf("%v is not good", r)
		}
	}
	for _, r := range badRoutes() {
		if impl.GoodRoute(r) {
			t.Errorf("%v is good", r)
		}
	}
}

func TestPoliciesAreGoodByTheirWords(t *testing.T) {
	for _, p := range goodPolicies() {
		if !impl.GoodPolicy(p) {
			t.Errorf("%v is not good", p)
		}
	}
	for name, p := range badPolicies() {
		if impl.GoodPolicy(p) {
			t.Errorf("%s: is good", name)
		}
	}
}

// smallTerms has terms that look at a part of a route and change what others look at.
func smallTerms() []impl.Term {
	looks := []impl.Term{
		{Comm: -1},
		{Comm: 5},
		{Comm: -1, Path: cells("then 9 star any")},
		{Comm: -1, Ranges: []impl.Range{{Prefix: tenNet(8), Lo: 16, Hi: 24}}},
	}
	acts := [][]impl.Act{
		nil,
		{{Kind: impl.ActAdd, N: 5}},
		{{Kind: impl.ActDrop, N: 5}, {Kind: impl.ActPref, N: 7}},
		{{Kind: impl.ActPrepend, N: 9}},
	}
	var l []impl.Term
	for _, term := range looks {
		for _, term.Acts = range acts {
			for _, term.Verdict = range []int{impl.VerdictNext, impl.VerdictAccept, impl.VerdictReject} {
				l = append(l, term)
			}
		}
	}
	return l
}

// smallPolicies has all policies of at most so many of these terms, with Accept or without.
func smallPolicies(most int, terms []impl.Term, accepts ...bool) []impl.Policy {
	rows := [][]impl.Term{nil}
	for from := 0; most > 0; most-- {
		to := len(rows)
		for _, row := range rows[from:to] {
			for _, term := range terms {
				rows = append(rows, append(slices.Clone(row), term))
			}
		}
		from = to
	}
	var l []impl.Policy
	for _, row := range rows {
		for _, accept := range accepts {
			l = append(l, policyOf(accept, row...))
		}
	}
	return l
}

func smallRoutes() []impl.Route {
	full := slices.Repeat([]int{3}, mostPath)
	return []impl.Route{
		{},
		{Prefix: tenNet(16), Attrs: impl.Attrs{Path: []int{3}, Comms: []int{5}}},
		{Prefix: tenNet(25), Attrs: impl.Attrs{Path: []int{9, 3}}},
		{Prefix: tenNet(24), Attrs: impl.Attrs{Path: full, Comms: []int{0, 1, 2, 3, 4, 6}}},
	}
}

// lookAtBoth asks of one policy behind another one what the document promises.
func lookAtBoth(t *testing.T, p, q, both impl.Policy, r impl.Route) {
	t.Helper()
	between, verdict, ok := impl.ApplyPolicy(p, r)
	want, wantVerdict, is := impl.Route{}, impl.VerdictReject, true
	if verdict == impl.VerdictAccept {
		want, wantVerdict, is = impl.ApplyPolicy(q, between)
	}
	if !ok || !is {
		t.Fatalf("%v, %v at %v: %v, %v", p, q, r, ok, is)
	}
	lookAtApply(t, both, r, want, wantVerdict)
}

func mustThen(t *testing.T, p, q impl.Policy) impl.Policy {
	t.Helper()
	both, ok := impl.ThenPolicy(p, q)
	want := policyOf(q.Accept, slices.Concat(p.Terms, q.Terms)...)
	if !ok || !samePolicy(both, want) || !impl.GoodPolicy(both) {
		t.Fatalf("ThenPolicy(%v, %v) = %v, %v, not %v", p, q, both, ok, want)
	}
	return both
}

func TestOneSmallPolicyBehindAnotherDoesWhatBothDo(t *testing.T) {
	terms := smallTerms()
	silent := slices.DeleteFunc(slices.Clone(terms), func(t impl.Term) bool { return t.Verdict == impl.VerdictAccept })
	routes := smallRoutes()
	try := func(ps, qs []impl.Policy) {
		for _, p := range ps {
			for _, q := range qs {
				both := mustThen(t, p, q)
				for _, r := range routes {
					lookAtBoth(t, p, q, both, r)
				}
			}
		}
	}
	try(smallPolicies(2, silent, true), smallPolicies(1, terms, true, false))
	try(smallPolicies(1, silent, true), smallPolicies(2, terms, true, false))
}

func TestOneGreaterPolicyBehindAnotherDoesWhatBothDo(t *testing.T) {
	r := rand.New(rand.NewSource(71))
	for range 3000 {
		many := r.Intn(mostTerms + 1)
		p, q := handsOn(mixedPolicy(many, r)), mixedPolicy(r.Intn(mostTerms+1-many), r)
		both := mustThen(t, p, q)
		for range 6 {
			lookAtBoth(t, p, q, both, mixedRoute(r))
		}
	}
}

func TestThenPolicyOfThreeStandsInEitherOrderOfJoining(t *testing.T) {
	r := rand.New(rand.NewSource(72))
	for range 500 {
		p, q, last := handsOn(mixedPolicy(r.Intn(3), r)), handsOn(mixedPolicy(r.Intn(3), r)), mixedPolicy(r.Intn(4), r)
		if a, b := mustThen(t, mustThen(t, p, q), last), mustThen(t, p, mustThen(t, q, last)); !samePolicy(a, b) {
			t.Errorf("%v, not %v", a, b)
		}
	}
}

func TestThenPolicyRefuses(t *testing.T) {
	next, accept, reject := impl.Term{Comm: -1}, impl.Term{Comm: -1, Verdict: impl.VerdictAccept}, impl.Term{Comm: -1, Verdict: impl.VerdictReject}
	rows := func(many int) impl.Policy { return policyOf(true, slices.Repeat([]impl.Term{next}, many)...) }
	refuses := func(name string, p, q impl.Policy) {
		t.Helper()
		if both, ok := impl.ThenPolicy(p, q); !isZeroPolicy(both) || ok {
			t.Errorf("%s: %v, %v", name, both, ok)
		}
	}
	for many := range mostTerms + 1 {
		mustThen(t, rows(many), rows(mostTerms-many))
		if many > 0 {
			refuses(fmt.Sprintf("%d terms and one too many", many), rows(many), rows(mostTerms+1-many))
			refuses(fmt.Sprintf("%d terms and %d", many, mostTerms), rows(many), rows(mostTerms))
		}
	}
	for _, q := range []impl.Policy{{}, {Accept: true}, policyOf(true, accept), policyOf(false, next, reject)} {
		refuses("p without Accept", policyOf(false), q)
		refuses("p with terms without Accept", policyOf(false, next, reject), q)
		refuses("p with a term that accepts", policyOf(true, accept), q)
		refuses("p whose last term accepts", policyOf(true, next, reject, accept), q)
		refuses("p whose first term accepts", policyOf(true, accept, next), q)
		refuses("p that accepts where nothing fits", policyOf(true, impl.Term{Path: cells("none"), Comm: 3, Verdict: impl.VerdictAccept}), q)
		mustThen(t, policyOf(true), q)
		mustThen(t, policyOf(true, next, reject), q)
	}
	mustThen(t, policyOf(true, reject), policyOf(false, accept, accept))
}

func TestAPolicyWithoutTermsSaysByAcceptAlone(t *testing.T) {
	for _, r := range goodRoutes() {
		lookAtApply(t, impl.Policy{Accept: true}, r, r, impl.VerdictAccept)
		lookAtApply(t, impl.Policy{}, r, impl.Route{}, impl.VerdictReject)
		lookAtApply(t, impl.Policy{Terms: []impl.Term{}, Accept: true}, r, r, impl.VerdictAccept)
	}
}

func TestTermsWithEachVerdict(t *testing.T) {
	r := plainRoute()
	changed := r
	changed.Attrs.Pref = 7
	acts := []impl.Act{{Kind: impl.ActPref, N: 7}}
	last := impl.Term{Comm: -1, Acts: []impl.Act{{Kind: impl.ActMed, N: 8}}}
	both := changed
	both.Attrs.Med = 8
	for _, accept := range []bool{false, true} {
		lookAtApply(t, policyOf(accept, impl.Term{Comm: -1, Acts: acts, Verdict: impl.VerdictAccept}, last), r, changed, impl.VerdictAccept)
		lookAtApply(t, policyOf(accept, impl.Term{Comm: -1, Acts: acts, Verdict: impl.VerdictReject}, last), r, impl.Route{}, impl.VerdictReject)
	}
	lookAtApply(t, policyOf(true, impl.Term{Comm: -1, Acts: acts, Verdict: impl.VerdictNext}, last), r, both, impl.VerdictAccept)
	lookAtApply(t, policyOf(false, impl.Term{Comm: -1, Acts: acts, Verdict: impl.VerdictNext}, last), r, impl.Route{}, impl.VerdictReject)
	for _, verdict := range []int{impl.VerdictNext, impl.VerdictAccept, impl.VerdictReject} {
		misses := impl.Term{Comm: 6, Acts: acts, Verdict: verdict}
		lookAtApply(t, policyOf(true, misses), r, r, impl.VerdictAccept)
		lookAtApply(t, policyOf(false, misses), r, impl.Route{}, impl.VerdictReject)
	}
}

func TestTheNextTermLooksAtTheRouteAsItIsThen(t *testing.T) {
	r := plainRoute()
	for name, c := range map[string]struct {
		act  impl.Act
		look impl.Term
		fits bool
	}{
		"a community that came":   {impl.Act{Kind: impl.ActAdd, N: 6}, impl.Term{Comm: 6}, true},
		"a community that went":   {impl.Act{Kind: impl.ActDrop, N: 5}, impl.Term{Comm: 5}, false},
		"another one stays":       {impl.Act{Kind: impl.ActDrop, N: 5}, impl.Term{Comm: 9}, true},
		"a path that grew":        {impl.Act{Kind: impl.ActPrepend, N: 7}, impl.Term{Comm: -1, Path: cells("then 7 3")}, true},
		"the path as it was":      {impl.Act{Kind: impl.ActPrepend, N: 7}, impl.Term{Comm: -1, Path: cells("3")}, false},
		"a path grown at its end": {impl.Act{Kind: impl.ActPrepend, N: 7}, impl.Term{Comm: -1, Path: cells("then 3 7")}, false},
	} {
		c.look.Verdict = impl.VerdictReject
		_, verdict, ok := impl.ApplyPolicy(policyOf(true, impl.Term{Comm: -1, Acts: []impl.Act{c.act}}, c.look), r)
		if !ok || (verdict == impl.VerdictReject) != c.fits {
			t.Errorf("%s: %v, %v", name, verdict, ok)
		}
	}
}

func actsOf(pairs ...int) []impl.Act {
	var l []impl.Act
	for i := 0; i < len(pairs); i += 2 {
		l = append(l, impl.Act{Kind: pairs[i], N: pairs[i+1]})
	}
	return l
}

func TestActsAreDoneOneAfterTheOther(t *testing.T) {
	r := plainRoute()
	with := func(change func(a *impl.Attrs)) impl.Route {
		changed := plainRoute()
		change(&changed.Attrs)
		return changed
	}
	for name, c := range map[string]struct {
		acts []impl.Act
		want impl.Route
	}{
		"none":                   {nil, r},
		"the last pref counts":   {actsOf(impl.ActPref, 8, impl.ActPref, 7), with(func(a *impl.Attrs) { a.Pref = 7 })},
		"the last med counts":    {actsOf(impl.ActMed, 8, impl.ActMed, 0), with(func(a *impl.Attrs) { a.Med = 0 })},
		"pref and med":           {actsOf(impl.ActPref, 8, impl.ActMed, 7), with(func(a *impl.Attrs) { a.Pref, a.Med = 8, 7 })},
		"added, then dropped":    {actsOf(impl.ActAdd, 6, impl.ActDrop, 6), r},
		"dropped, then added":    {actsOf(impl.ActDrop, 5, impl.ActAdd, 5), r},
		"added in order":         {actsOf(impl.ActAdd, 7, impl.ActAdd, 0, impl.ActAdd, 60), with(func(a *impl.Attrs) { a.Comms = []int{0, 5, 7, 9, 60} })},
		"all dropped":            {actsOf(impl.ActDrop, 9, impl.ActDrop, 5), with(func(a *impl.Attrs) { a.Comms = nil })},
		"the last one is ahead":  {actsOf(impl.ActPrepend, 7, impl.ActPrepend, 8), with(func(a *impl.Attrs) { a.Path = []int{8, 7, 3} })},
		"the same one twice":     {actsOf(impl.ActPrepend, 3, impl.ActPrepend, 3), with(func(a *impl.Attrs) { a.Path = []int{3, 3, 3} })},
		"of each kind one":       {actsOf(1, 1, 2, 3, 3, 4, 4, 5, 5, 6), with(func(a *impl.Attrs) { a.Pref, a.Med, a.Comms, a.Path = 1, 3, []int{4, 9}, []int{6, 3} })},
		"of each kind, backward": {actsOf(5, 6, 4, 5, 3, 4, 2, 3, 1, 1), with(func(a *impl.Attrs) { a.Pref, a.Med, a.Comms, a.Path = 1, 3, []int{4, 9}, []int{6, 3} })},
	} {
		for _, verdict := range []int{impl.VerdictNext, impl.VerdictAccept} {
			got, v, ok := impl.ApplyPolicy(policyOf(true, impl.Term{Comm: -1, Acts: c.acts, Verdict: verdict}), r)
			if !sameRoute(got, c.want) || v != impl.VerdictAccept || !ok {
				t.Errorf("%s: %v, %v, %v, not %v", name, got, v, ok, c.want)
			}
		}
	}
}

func TestAnActThatIsTooMuchIsLeftOut(t *testing.T) {
	path := slices.Repeat([]int{3}, mostPath)
	comms := []int{1, 2, 3, 4, 5, 6}
	route := func(path, comms []int, pref int) impl.Route {
		return impl.Route{Prefix: tenNet(16), Attrs: impl.Attrs{Path: path, Comms: comms, Pref: pref}}
	}
	full := route(path, comms, 0)
	for name, c := range map[string]struct {
		acts    []impl.Act
		r, want impl.Route
	}{
		"a path that would be too long":        {actsOf(impl.ActPrepend, 7), full, full},
		"and one behind it":                    {actsOf(impl.ActPrepend, 7, impl.ActPref, 9), full, route(path, comms, 9)},
		"and ones on both sides":               {actsOf(impl.ActDrop, 1, impl.ActPrepend, 7, impl.ActPref, 9), full, route(path, comms[1:], 9)},
		"a path with room for one":             {actsOf(impl.ActPrepend, 7, impl.ActPrepend, 8, impl.ActPref, 9), route(path[1:], comms, 0), route(append([]int{7}, path[1:]...), comms, 9)},
		"a path with room for two":             {actsOf(impl.ActPrepend, 7, impl.ActPrepend, 8, impl.ActPrepend, 9), route(path[2:], comms, 0), route(append([]int{8, 7}, path[2:]...), comms, 0)},
		"communities that would be too many":   {actsOf(impl.ActAdd, 7), full, full},
		"one that is there is not too many":    {actsOf(impl.ActAdd, 6, impl.ActPref, 9), full, route(path, comms, 9)},
		"and acts behind it":                   {actsOf(impl.ActAdd, 7, impl.ActPref, 9, impl.ActDrop, 2), full, route(path, []int{1, 3, 4, 5, 6}, 9)},
		"room is made behind what is left out": {actsOf(impl.ActAdd, 7, impl.ActDrop, 1), full, route(path, comms[1:], 0)},
		"room is made ahead of it":             {actsOf(impl.ActDrop, 1, impl.ActAdd, 7), full, route(path, []int{2, 3, 4, 5, 6, 7}, 0)},
		"room is made between two":             {actsOf(impl.ActAdd, 7, impl.ActDrop, 1, impl.ActAdd, 0), full, route(path, []int{0, 2, 3, 4, 5, 6}, 0)},
		"all are left out":                     {actsOf(impl.ActAdd, 7, impl.ActAdd, 0, impl.ActPrepend, 1, impl.ActAdd, mostValue, impl.ActPrepend, 3), full, full},
	} {
		for _, verdict := range []int{impl.VerdictNext, impl.VerdictAccept} {
			got, v, ok := impl.ApplyPolicy(policyOf(true, impl.Term{Comm: -1, Acts: c.acts, Verdict: verdict}), c.r)
			if !sameRoute(got, c.want) || v != impl.VerdictAccept || !ok {
				t.Errorf("%s: %v, %v, %v, not %v", name, got, v, ok, c.want)
			}
		}
	}
	next := impl.Term{Comm: -1, Acts: actsOf(impl.ActAdd, 7, impl.ActPrepend, 7)}
	lookAtApply(t, policyOf(true, next, impl.Term{Comm: 7, Verdict: impl.VerdictReject}), full, full, impl.VerdictAccept)
	lookAtApply(t, policyOf(true, next, impl.Term{Comm: -1, Path: cells("then 7 star any"), Verdict: impl.VerdictReject}), full, full, impl.VerdictAccept)
}

func TestApplyPolicyGoesByItsWords(t *testing.T) {
	verdicts := map[int]int{}
	look := func(p impl.Policy, r impl.Route) {
		want, verdict := applyByWords(p, r)
		lookAtApply(t, p, r, want, verdict)
		verdicts[verdict]++
	}
	for _, p := range smallPolicies(2, smallTerms(), true, false) {
		for _, r := range smallRoutes() {
			look(p, r)
		}
	}
	r := rand.New(rand.NewSource(73))
	for _, p := range goodPolicies() {
		for range 40 {
			look(p, mixedRoute(r))
		}
	}
	if verdicts[impl.VerdictAccept] < 1000 || verdicts[impl.VerdictReject] < 1000 || len(verdicts) != 2 {
		t.Error(verdicts)
	}
}

func lookAtFits(t *testing.T, term impl.Term, r impl.Route, want bool) {
	t.Helper()
	if fits, ok := impl.TermFits(term, r); fits != want || !ok {
		t.Errorf("TermFits(%v, %v) = %v, %v, not %v", term, r, fits, ok, want)
	}
}

func TestRangesOfATerm(t *testing.T) {
	route := func(p impl.Prefix) impl.Route { return impl.Route{Prefix: p} }
	for _, p := range goodPrefixes() {
		lookAtFits(t, impl.Term{Comm: -1}, route(p), true)
		lookAtFits(t, impl.Term{Comm: -1, Ranges: []impl.Range{{Hi: 32}}}, route(p), true)
		lookAtFits(t, impl.Term{Comm: -1, Ranges: []impl.Range{{Prefix: p, Lo: p.Len, Hi: p.Len}}}, route(p), true)
	}
	one := impl.Term{Comm: -1, Ranges: []impl.Range{{Prefix: tenNet(8), Lo: 12, Hi: 20}}}
	for length := range 33 {
		lookAtFits(t, one, route(tenNet(length)), 12 <= length && length <= 20)
		lookAtFits(t, one, route(prefixAt(11<<24, length)), false)
		lookAtFits(t, one, route(prefixAt(9<<24|255<<16, length)), false)
		lookAtFits(t, impl.Term{Comm: -1, Ranges: []impl.Range{{Prefix: tenNet(8), Lo: 8, Hi: 32}}}, route(tenNet(length)), length >= 8)
		lookAtFits(t, impl.Term{Comm: -1, Ranges: []impl.Range{{Prefix: tenNet(16), Lo: 16, Hi: 16}}}, route(tenNet(length)), length == 16)
	}
	two := impl.Term{Comm: -1, Ranges: []impl.Range{{Prefix: tenNet(8), Lo: 8, Hi: 9}, {Prefix: prefixAt(11<<24, 8), Lo: 16, Hi: 17}}}
	for length := 8; length <= 32; length++ {
		lookAtFits(t, two, route(tenNet(length)), length <= 9)
		lookAtFits(t, two, route(prefixAt(11<<24, length)), length == 16 || length == 17)
	}
	many := impl.Term{Comm: -1, Ranges: slices.Repeat([]impl.Range{{Prefix: tenNet(24), Lo: 24, Hi: 24}}, mostRanges)}
	lookAtFits(t, many, route(tenNet(25)), false)
	for i := range many.Ranges {
		some := impl.Term{Comm: -1, Ranges: slices.Clone(many.Ranges)}
		some.Ranges[i].Hi = 25
		lookAtFits(t, some, route(tenNet(25)), true)
	}
}

func TestPathOfATerm(t *testing.T) {
	r := rand.New(rand.NewSource(74))
	rows, others := 0, 0
	for _, pattern := range goodPatterns() {
		for _, path := range pathsFor(pattern, r) {
			want := matchByWords(pattern, path)
			lookAtFits(t, impl.Term{Comm: -1, Path: pattern}, impl.Route{Attrs: impl.Attrs{Path: path}}, want)
			lookAtFits(t, impl.Term{Comm: -1, Path: []impl.ReCell{}}, impl.Route{Attrs: impl.Attrs{Path: path}}, true)
			if want {
				rows++
			} else {
				others++
			}
		}
	}
	if rows < 500 || others < 500 {
		t.Error(rows, others)
	}
	for text, want := range map[string]bool{"3": true, "any": true, "star any": true, "4": false, "none": false, "empty": false, "then 3 3": false, "then 3 star 3": true} {
		lookAtFits(t, impl.Term{Comm: -1, Path: cells(text)}, plainRoute(), want)
	}
	lookAtFits(t, impl.Term{Comm: -1, Path: cells("none")}, impl.Route{}, false)
	lookAtFits(t, impl.Term{Comm: -1, Path: cells("empty")}, impl.Route{}, true)
}

func TestCommOfATerm(t *testing.T) {
	for _, comms := range [][]int{nil, {0}, {5}, {mostValue}, {0, 5, 9}, {0, 1, 2, 3, 4, mostValue}} {
		r := impl.Route{Attrs: impl.Attrs{Comms: comms}}
		for _, c := range []int{0, 1, 4, 5, 6, 9, mostValue - 1, mostValue} {
			lookAtFits(t, impl.Term{Comm: c}, r, slices.Contains(comms, c))
		}
		lookAtFits(t, impl.Term{Comm: -1}, r, true)
	}
	lookAtFits(t, impl.Term{}, impl.Route{}, false)
	lookAtFits(t, impl.Term{Comm: 3}, impl.Route{Attrs: impl.Attrs{Path: []int{3}, Pref: 3, Med: 3}}, false)
}

func TestAllThreeOfATermAtOnce(t *testing.T) {
	r := plainRoute()
	for _, g := range []impl.Range{{Prefix: tenNet(8), Lo: 8, Hi: 24}, {Prefix: tenNet(8), Lo: 8, Hi: 15}} {
		for _, path := range []string{"3", "4"} {
			for _, comm := range []int{5, 6} {
				want := g.Hi == 24 && path == "3" && comm == 5
				for verdict := range 3 {
					for _, acts := range [][]impl.Act{nil, actsOf(impl.ActDrop, 5, impl.ActPrepend, 4)} {
						lookAtFits(t, impl.Term{Ranges: []impl.Range{g}, Path: cells(path), Comm: comm, Acts: acts, Verdict: verdict}, r, want)
					}
				}
			}
		}
	}
}

func TestTermFitsGoesByItsWords(t *testing.T) {
	r := rand.New(rand.NewSource(75))
	fits := 0
	for range 20000 {
		term, route := mixedTerm(r), mixedRoute(r)
		want := fitsByWords(term, route)
		lookAtFits(t, term, route, want)
		if want {
			fits++
		}
	}
	if fits < 2000 || fits > 18000 {
		t.Error(fits)
	}
}

func lookAtAct(t *testing.T, a impl.Act, r impl.Route) {
	t.Helper()
	want, wantOk := actByWords(a, r)
	if got, ok := impl.ActOn(a, r); !sameRoute(got, want) || ok != wantOk {
		t.Errorf("ActOn(%v, %v) = %v, %v, not %v, %v", a, r, got, ok, want, wantOk)
	}
}

func TestActOnOfEachKindAtItsBounds(t *testing.T) {
	for _, r := range goodRoutes() {
		for _, a := range goodActs() {
			lookAtAct(t, a, r)
		}
		for _, n := range append(slices.Clone(r.Attrs.Comms), 0, mostValue) {
			lookAtAct(t, impl.Act{Kind: impl.ActAdd, N: n}, r)
			lookAtAct(t, impl.Act{Kind: impl.ActDrop, N: n}, r)
		}
		for _, a := range badActs() {
			if got, ok := impl.ActOn(a, r); !isZeroRoute(got) || ok {
				t.Errorf("ActOn(%v, %v) = %v, %v", a, r, got, ok)
			}
		}
	}
}

func TestActsThatAreKnown(t *testing.T) {
	six := []int{1, 2, 3, 4, 5, 6}
	ten := slices.Repeat([]int{3}, mostPath)
	for name, c := range map[string]struct {
		a       impl.Act
		r, want impl.Attrs
		ok      bool
	}{
		"pref":                               {impl.Act{Kind: impl.ActPref, N: 7}, impl.Attrs{Pref: 1, Med: 2}, impl.Attrs{Pref: 7, Med: 2}, true},
		"pref of 0":                          {impl.Act{Kind: impl.ActPref}, impl.Attrs{Pref: 1, Med: 2}, impl.Attrs{Med: 2}, true},
		"greatest pref":                      {impl.Act{Kind: impl.ActPref, N: mostValue}, impl.Attrs{}, impl.Attrs{Pref: mostValue}, true},
		"med":                                {impl.Act{Kind: impl.ActMed, N: 7}, impl.Attrs{Pref: 1, Med: 2}, impl.Attrs{Pref: 1, Med: 7}, true},
		"greatest med":                       {impl.Act{Kind: impl.ActMed, N: mostValue}, impl.Attrs{}, impl.Attrs{Med: mostValue}, true},
		"added to none":                      {impl.Act{Kind: impl.ActAdd, N: 7}, impl.Attrs{}, impl.Attrs{Comms: []int{7}}, true},
		"added ahead":                        {impl.Act{Kind: impl.ActAdd}, impl.Attrs{Comms: []int{4, 9}}, impl.Attrs{Comms: []int{0, 4, 9}}, true},
		"added between":                      {impl.Act{Kind: impl.ActAdd, N: 7}, impl.Attrs{Comms: []int{4, 9}}, impl.Attrs{Comms: []int{4, 7, 9}}, true},
		"added behind":                       {impl.Act{Kind: impl.ActAdd, N: mostValue}, impl.Attrs{Comms: []int{4, 9}}, impl.Attrs{Comms: []int{4, 9, mostValue}}, true},
		"added what is there":                {impl.Act{Kind: impl.ActAdd, N: 9}, impl.Attrs{Comms: []int{4, 9}}, impl.Attrs{Comms: []int{4, 9}}, true},
		"added as the sixth":                 {impl.Act{Kind: impl.ActAdd, N: 6}, impl.Attrs{Comms: six[:5]}, impl.Attrs{Comms: six}, true},
		"added what is there among six":      {impl.Act{Kind: impl.ActAdd, N: 3}, impl.Attrs{Comms: six}, impl.Attrs{Comms: six}, true},
		"added as the seventh":               {impl.Act{Kind: impl.ActAdd, N: 7}, impl.Attrs{Comms: six}, impl.Attrs{}, false},
		"dropped the first":                  {impl.Act{Kind: impl.ActDrop, N: 1}, impl.Attrs{Comms: six}, impl.Attrs{Comms: six[1:]}, true},
		"dropped the last":                   {impl.Act{Kind: impl.ActDrop, N: 6}, impl.Attrs{Comms: six}, impl.Attrs{Comms: six[:5]}, true},
		"dropped the one":                    {impl.Act{Kind: impl.ActDrop, N: 6}, impl.Attrs{Comms: []int{6}}, impl.Attrs{}, true},
		"dropped what is not there":          {impl.Act{Kind: impl.ActDrop, N: 7}, impl.Attrs{Comms: six}, impl.Attrs{Comms: six}, true},
		"dropped of none":                    {impl.Act{Kind: impl.ActDrop, N: 7}, impl.Attrs{Pref: 3}, impl.Attrs{Pref: 3}, true},
		"ahead of no path":                   {impl.Act{Kind: impl.ActPrepend, N: 7}, impl.Attrs{}, impl.Attrs{Path: []int{7}}, true},
		"ahead of a path":                    {impl.Act{Kind: impl.ActPrepend, N: 7}, impl.Attrs{Path: []int{3, 4}}, impl.Attrs{Path: []int{7, 3, 4}}, true},
		"ahead of itself":                    {impl.Act{Kind: impl.ActPrepend, N: 3}, impl.Attrs{Path: []int{3}}, impl.Attrs{Path: []int{3, 3}}, true},
		"the greatest ahead":                 {impl.Act{Kind: impl.ActPrepend, N: mostAsn}, impl.Attrs{Path: []int{1}}, impl.Attrs{Path: []int{mostAsn, 1}}, true},
		"ahead of 9 numbers":                 {impl.Act{Kind: impl.ActPrepend, N: 3}, impl.Attrs{Path: ten[1:]}, impl.Attrs{Path: ten}, true},
		"ahead of as many as there may be":   {impl.Act{Kind: impl.ActPrepend, N: 3}, impl.Attrs{Path: ten}, impl.Attrs{}, false},
		"the asn is no community":            {impl.Act{Kind: impl.ActDrop, N: 3}, impl.Attrs{Path: []int{3}, Comms: []int{3}}, impl.Attrs{Path: []int{3}}, true},
		"other things of the route are kept": {impl.Act{Kind: impl.ActPref, N: 3}, plainAttrs(), impl.Attrs{Origin: 1, Path: []int{300, 7}, Next: 5, Med: 2, Pref: 3, Comms: []int{9, 70000}}, true},
	} {
		want := impl.Route{}
		if c.ok {
			want = impl.Route{Prefix: tenNet(16), Attrs: c.want}
		}
		if got, ok := impl.ActOn(c.a, impl.Route{Prefix: tenNet(16), Attrs: c.r}); !sameRoute(got, want) || ok != c.ok {
			t.Errorf("%s: %v, %v, not %v, %v", name, got, ok, want, c.ok)
		}
	}
}

func TestFilterRoutesIsApplyPolicyOfEach(t *testing.T) {
	r := rand.New(rand.NewSource(76))
	kept := map[bool]int{}
	for _, p := range goodPolicies() {
		for _, many := range []int{0, 1, 2, 7, mostRoutes} {
			var l, want []impl.Route
			for range many {
				route := mixedRoute(r)
				l = append(l, route)
				then, verdict := applyByWords(p, route)
				if verdict == impl.VerdictAccept {
					want = append(want, then)
				}
				kept[verdict == impl.VerdictAccept]++
			}
			if got, ok := impl.FilterRoutes(p, l); !sameRoutes(got, want) || !ok {
				t.Errorf("FilterRoutes(%v, %v) = %v, %v, not %v", p, l, got, ok, want)
			}
		}
	}
	if kept[true] < 1000 || kept[false] < 1000 {
		t.Error(kept)
	}
}

func TestFilterRoutesThatAreKnown(t *testing.T) {
	route := func(pref, comm int) impl.Route {
		return impl.Route{Prefix: tenNet(16), Attrs: impl.Attrs{Pref: pref, Comms: []int{comm}}}
	}
	l := []impl.Route{route(5, 1), route(4, 2), route(3, 3), route(4, 2), route(1, 1)}
	drops := policyOf(true, impl.Term{Comm: 2, Verdict: impl.VerdictReject}, impl.Term{Comm: 1, Acts: actsOf(impl.ActPref, 9)})
	for name, c := range map[string]struct {
		p    impl.Policy
		want []impl.Route
	}{
		"all":                       {policyOf(true), l},
		"none":                      {policyOf(false), nil},
		"none by a term":            {policyOf(true, impl.Term{Comm: -1, Verdict: impl.VerdictReject}), nil},
		"one":                       {policyOf(false, impl.Term{Comm: 3, Verdict: impl.VerdictAccept}), l[2:3]},
		"two alike":                 {policyOf(false, impl.Term{Comm: 2, Verdict: impl.VerdictAccept}), []impl.Route{l[1], l[3]}},
		"as they are then, ordered": {drops, []impl.Route{route(9, 1), route(3, 3), route(9, 1)}},
	} {
		if got, ok := impl.FilterRoutes(c.p, l); !sameRoutes(got, c.want) || !ok {
			t.Errorf("%s: %v, %v, not %v", name, got, ok, c.want)
		}
		if got, ok := impl.FilterRoutes(c.p, nil); len(got) != 0 || !ok {
			t.Errorf("%s, no routes: %v, %v", name, got, ok)
		}
	}
}

func TestFilterRoutesOfTooManyOrOfOneThatIsNotGood(t *testing.T) {
	most := slices.Repeat([]impl.Route{plainRoute()}, mostRoutes)
	for _, p := range []impl.Policy{policyOf(true), policyOf(false)} {
		if _, ok := impl.FilterRoutes(p, most); !ok {
			t.Errorf("%d routes are refused", len(most))
		}
		for _, many := range []int{mostRoutes + 1, 5000} {
			if got, ok := impl.FilterRoutes(p, slices.Repeat(most[:1], many)); len(got) != 0 || ok {
				t.Errorf("%d routes: %v, %v", many, got, ok)
			}
		}
		for _, r := range badRoutes() {
			for _, at := range []int{0, 14, mostRoutes - 1} {
				l := slices.Clone(most)
				l[at] = r
				if got, ok := impl.FilterRoutes(p, l); len(got) != 0 || ok {
					t.Errorf("%v at %d: %v, %v", r, at, got, ok)
				}
			}
			if got, ok := impl.FilterRoutes(p, []impl.Route{r}); len(got) != 0 || ok {
				t.Errorf("%v alone: %v, %v", r, got, ok)
			}
		}
	}
}

func refusesRoute(t *testing.T, name string, p impl.Policy, r impl.Route) {
	t.Helper()
	if got, verdict, ok := impl.ApplyPolicy(p, r); !isZeroRoute(got) || verdict != 0 || ok {
		t.Errorf("%s: ApplyPolicy: %v, %v, %v", name, got, verdict, ok)
	}
}

func TestRoutesThatAreNotGoodAreRefused(t *testing.T) {
	term := impl.Term{Comm: -1}
	for _, r := range badRoutes() {
		for _, p := range []impl.Policy{{}, {Accept: true}, policyOf(true, term), policyOf(false, fullTerm()), policyOf(true, impl.Term{Comm: -1, Verdict: impl.VerdictReject})} {
			refusesRoute(t, fmt.Sprint(r), p, r)
		}
		for _, term := range []impl.Term{{}, term, fullTerm()} {
			if fits, ok := impl.TermFits(term, r); fits || ok {
				t.Errorf("TermFits(%v, %v) = %v, %v", term, r, fits, ok)
			}
		}
		for _, a := range append(goodActs(), badActs()[:3]...) {
			if got, ok := impl.ActOn(a, r); !isZeroRoute(got) || ok {
				t.Errorf("ActOn(%v, %v) = %v, %v", a, r, got, ok)
			}
		}
	}
}

func TestTermsThatAreNotGoodAreRefused(t *testing.T) {
	for name, term := range badTerms() {
		for _, r := range []impl.Route{{}, plainRoute(), fullRoute(), badRoutes()[0]} {
			if fits, ok := impl.TermFits(term, r); fits || ok {
				t.Errorf("%s: TermFits: %v, %v", name, fits, ok)
			}
		}
	}
	for _, term := range goodTerms() {
		if _, ok := impl.TermFits(term, plainRoute()); !ok {
			t.Errorf("%v is refused", term)
		}
	}
}

func TestPoliciesThatAreNotGoodAreRefused(t *testing.T) {
	for name, p := range badPolicies() {
		for _, r := range []impl.Route{{}, plainRoute(), fullRoute(), badRoutes()[0]} {
			refusesRoute(t, name, p, r)
		}
		for _, l := range [][]impl.Route{nil, {plainRoute()}, {{}, fullRoute()}} {
			if got, ok := impl.FilterRoutes(p, l); len(got) != 0 || ok {
				t.Errorf("%s: FilterRoutes: %v, %v", name, got, ok)
			}
		}
		for _, q := range []impl.Policy{{}, {Accept: true}, policyOf(true, impl.Term{Comm: -1}), p} {
			if both, ok := impl.ThenPolicy(handsOn(p), q); !isZeroPolicy(both) || ok {
				t.Errorf("%s, first, as one that hands on: ThenPolicy: %v, %v", name, both, ok)
			}
			if both, ok := impl.ThenPolicy(p, q); !isZeroPolicy(both) || ok {
				t.Errorf("%s, first: ThenPolicy: %v, %v", name, both, ok)
			}
			if both, ok := impl.ThenPolicy(handsOn(q), p); !isZeroPolicy(both) || ok {
				t.Errorf("%s, second: ThenPolicy: %v, %v", name, both, ok)
			}
		}
	}
}

var behindRange = impl.Range{Prefix: behindPrefix, Lo: -7, Hi: 99}
var behindAct = impl.Act{Kind: -7, N: -77}
var behindTerm = impl.Term{Comm: -7, Verdict: 99}
var behindRoute = impl.Route{Prefix: behindPrefix}

func routeWithBehind(r impl.Route) impl.Route {
	r.Attrs = attrsWithBehind(r.Attrs)
	return r
}

func routesWithBehind(l []impl.Route) []impl.Route {
	own := slices.Clone(l)
	for i, r := range own {
		own[i] = routeWithBehind(r)
	}
	return withBehind(own, behindRoute)
}

func termWithBehind(t impl.Term) impl.Term {
	t.Ranges, t.Path, t.Acts = withBehind(t.Ranges, behindRange), withBehind(t.Path, behindCell), withBehind(t.Acts, behindAct)
	return t
}

func policyWithBehind(p impl.Policy) impl.Policy {
	own := impl.Policy{Accept: p.Accept}
	for _, t := range p.Terms {
		own.Terms = append(own.Terms, termWithBehind(t))
	}
	own.Terms = withBehind(own.Terms, behindTerm)
	return own
}

func wholeRoute(r impl.Route) impl.Route {
	r.Attrs = wholeAttrs(r.Attrs)
	return r
}

func wholeRoutes(l []impl.Route) []impl.Route {
	own := whole(l)
	for i, r := range own {
		own[i] = wholeRoute(r)
	}
	return own
}

func wholeTerm(t impl.Term) impl.Term {
	t.Ranges, t.Path, t.Acts = whole(t.Ranges), whole(t.Path), whole(t.Acts)
	return t
}

func wholePolicy(p impl.Policy) impl.Policy {
	own := impl.Policy{Terms: whole(p.Terms), Accept: p.Accept}
	for i, t := range own.Terms {
		own.Terms[i] = wholeTerm(t)
	}
	return own
}

func overwriteTerm(t impl.Term) {
	overwrite(t.Ranges, impl.Range{Lo: -9})
	overwrite(t.Path, writtenCell)
	overwrite(t.Acts, impl.Act{Kind: -9})
}

func overwritePolicy(p impl.Policy) {
	for _, t := range p.Terms {
		overwriteTerm(t)
	}
	overwrite(p.Terms, impl.Term{Comm: -9})
}

func overwriteRoutes(l []impl.Route) {
	for _, r := range l {
		overwriteAttrs(r.Attrs)
	}
	overwrite(l, impl.Route{Prefix: impl.Prefix{Addr: -9, Len: -9}})
}

func handsOutBehind(l ...impl.Route) bool {
	for _, r := range l {
		if all := wholeAttrs(r.Attrs); slices.Contains(all.Path, behindNumber) || slices.Contains(all.Comms, behindNumber) || r.Prefix == behindPrefix {
			return true
		}
	}
	return false
}

// lookAtPolicyMemory hands all in with memory behind it, and writes into all that is answered.
func lookAtPolicyMemory(t *testing.T, p, q impl.Policy, l []impl.Route) {
	t.Helper()
	givenP, givenQ, givenL := policyWithBehind(p), policyWithBehind(q), routesWithBehind(l)
	keptP, keptQ, keptL := wholePolicy(givenP), wholePolicy(givenQ), wholeRoutes(givenL)
	if impl.GoodPolicy(givenP) != impl.GoodPolicy(p) {
		t.Errorf("%v: what lies behind is read", p)
	}
	for i, r := range givenL {
		if impl.GoodRoute(r) != impl.GoodRoute(l[i]) {
			t.Errorf("%v: what lies behind is read", r)
		}
		got, verdict, ok := impl.ApplyPolicy(givenP, r)
		want, wantVerdict, wantOk := impl.ApplyPolicy(p, l[i])
		if !sameRoute(got, want) || verdict != wantVerdict || ok != wantOk || handsOutBehind(wholeRoute(got)) {
			t.Errorf("ApplyPolicy(%v, %v) = %v, %v, %v", p, l[i], got, verdict, ok)
		}
		overwriteAttrs(got.Attrs)
		for j, term := range givenP.Terms {
			fits, ok := impl.TermFits(term, r)
			if want, wantOk := impl.TermFits(p.Terms[j], l[i]); fits != want || ok != wantOk {
				t.Errorf("TermFits(%v, %v) = %v, %v", term, r, fits, ok)
			}
		}
	}
	got, ok := impl.FilterRoutes(givenP, givenL)
	if want, wantOk := impl.FilterRoutes(p, l); !sameRoutes(got, want) || ok != wantOk || handsOutBehind(whole(got)...) {
		t.Errorf("FilterRoutes(%v, %v) = %v, %v", p, l, got, ok)
	}
	overwriteRoutes(got)
	both, ok := impl.ThenPolicy(givenP, givenQ)
	if want, wantOk := impl.ThenPolicy(p, q); !samePolicy(both, want) || ok != wantOk {
		t.Errorf("ThenPolicy(%v, %v) = %v, %v", p, q, both, ok)
	}
	for _, term := range whole(both.Terms) {
		if sameTerm(term, behindTerm) || slices.Contains(whole(term.Ranges), behindRange) || slices.Contains(whole(term.Path), behindCell) || slices.Contains(whole(term.Acts), behindAct) {
			t.Errorf("ThenPolicy(%v, %v) hands out what lies behind: %v", p, q, wholeTerm(term))
		}
	}
	overwritePolicy(both)
	if !samePolicy(wholePolicy(givenP), keptP) || !samePolicy(wholePolicy(givenQ), keptQ) || !sameRoutes(wholeRoutes(givenL), keptL) {
		t.Errorf("%v, %v, %v became %v, %v, %v", keptP, keptQ, keptL, wholePolicy(givenP), wholePolicy(givenQ), wholeRoutes(givenL))
	}
}

func TestPoliciesAreNotWrittenIntoNorShared(t *testing.T) {
	r := rand.New(rand.NewSource(77))
	for _, p := range goodPolicies() {
		l := append(smallRoutes(), mixedRoute(r), mixedRoute(r), plainRoute())
		q := mixedPolicy(r.Intn(4), r)
		lookAtPolicyMemory(t, p, q, l)
		lookAtPolicyMemory(t, handsOn(p), q, l)
		lookAtPolicyMemory(t, handsOn(q), p, l)
	}
	for name, p := range badPolicies() {
		if len(p.Terms) < 100 && len(name)%7 == 0 {
			lookAtPolicyMemory(t, p, policyOf(true, impl.Term{Comm: -1}), []impl.Route{plainRoute()})
			lookAtPolicyMemory(t, policyOf(true, impl.Term{Comm: -1}), p, []impl.Route{plainRoute()})
		}
	}
	for _, bad := range badRoutes() {
		lookAtPolicyMemory(t, policyOf(true, fullTerm()), policyOf(false), []impl.Route{plainRoute(), bad})
	}
}

func TestRoutesAreNotWrittenIntoNorSharedByActs(t *testing.T) {
	for _, r := range append(goodRoutes(), badRoutes()...) {
		for _, a := range append(goodActs(), badActs()...) {
			given := routeWithBehind(r)
			kept := wholeRoute(given)
			got, ok := impl.ActOn(a, given)
			if want, wantOk := impl.ActOn(a, r); !sameRoute(got, want) || ok != wantOk || handsOutBehind(got) {
				t.Errorf("ActOn(%v, %v) = %v, %v", a, r, got, ok)
			}
			overwriteAttrs(got.Attrs)
			if !sameRoute(wholeRoute(given), kept) {
				t.Errorf("ActOn(%v, ..): %v became %v", a, kept, wholeRoute(given))
			}
		}
	}
}

// TestListsOfOneAnswerOfPoliciesShareNoMemory writes into one list of an answer and looks at the others.
func TestListsOfOneAnswerOfPoliciesShareNoMemory(t *testing.T) {
	term := impl.Term{Ranges: []impl.Range{{Hi: 32}}, Path: cells("star any"), Comm: -1, Acts: actsOf(impl.ActPref, 3)}
	same := slices.Repeat([]impl.Term{term}, 4) // all of one memory, as an argument may be
	both := mustThen(t, policyOf(true, same...), policyOf(true, same...))
	for i := range both.Terms {
		overwriteTerm(both.Terms[i])
		for _, behind := range both.Terms[i+1:] {
			if !sameTerm(behind, term) {
				t.Fatalf("writing into term %d makes another one %v", i, behind)
			}
		}
	}
	route := plainRoute()
	routes := slices.Repeat([]impl.Route{route}, mostRoutes)
	for _, acts := range [][]impl.Act{nil, actsOf(impl.ActPref, 100), actsOf(impl.ActAdd, 5), actsOf(impl.ActDrop, 6)} {
		got, _ := impl.FilterRoutes(policyOf(true, impl.Term{Comm: -1, Acts: acts}), routes)
		for i := range got {
			overwrite(got[i].Attrs.Path, -9)
			if !slices.Equal(got[i].Attrs.Comms, route.Attrs.Comms) {
				t.Fatalf("writing into a Path makes Comms %v", got[i].Attrs.Comms)
			}
			overwriteAttrs(got[i].Attrs)
			for _, behind := range got[i+1:] {
				if !sameRoute(behind, route) {
					t.Fatalf("writing into route %d makes another one %v", i, behind)
				}
			}
		}
	}
	if !sameRoute(route, plainRoute()) {
		t.Error(route)
	}
}

func TestActsAreFunctionsInAFieldAndCasesFallThrough(t *testing.T) {
	parsed, err := parser.ParseFile(token.NewFileSet(), "../impl/l7_policy.go", nil, parser.SkipObjectResolution)
	if err != nil {
		t.Fatal(err)
	}
	fields, falls := 0, 0
	ast.Inspect(parsed, func(n ast.Node) bool {
		switch x := n.(type) {
		case *ast.StructType:
			for _, f := range x.Fields.List {
				if _, ok := f.Type.(*ast.FuncType); ok {
					fields++
				}
			}
		case *ast.BranchStmt:
			if x.Tok == token.FALLTHROUGH {
				falls++
			}
		}
		return true
	})
	if fields == 0 || falls == 0 {
		t.Error(fields, falls)
	}
}
