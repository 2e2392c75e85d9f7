package tests

import (
	"fmt"
	"go/ast"
	"go/parser"
	"go/token"
	"math"
	"math/rand"
	"slices"
	"strings"
	"testing"

	"loop.example/g00344/impl"
)

const (
	mostHistory = 10
	mostOps     = 60
	mostTicks   = 100
)

func TestOpsAndLimitsOfCommitsAreAsSaid(t *testing.T) {
	ops := []int{impl.OpSet, impl.OpDelete, impl.OpCommit, impl.OpCommitFor, impl.OpConfirm, impl.OpRollback, impl.OpDiscard, impl.OpTick}
	if !slices.Equal(ops, []int{1, 2, 3, 4, 5, 6, 7, 8}) {
		t.Error(ops)
	}
	if impl.MaxHistory != mostHistory || impl.MaxSteps != mostOps {
		t.Error(impl.MaxHistory, impl.MaxSteps)
	}
}

// leavesText is what leavesOf reads.
func leavesText(l []impl.Leaf) string {
	var texts []string
	for _, leaf := range l {
		texts = append(texts, strings.Join(leaf.Path, " ")+"="+leaf.Value)
	}
	return strings.Join(texts, ", ")
}

// opsOf reads ops with a semicolon between: set W ..=V, delete W .., commit, for N, confirm, back N, discard, tick; 3*tick is three of them.
func opsOf(text string) []impl.Op {
	names := strings.Fields("set delete commit for confirm back discard tick")
	var l []impl.Op
	for _, one := range strings.FieldsFunc(text, func(r rune) bool { return r == ';' }) {
		times := 1
		one = strings.TrimSpace(one)
		if many, rest, has := strings.Cut(one, "*"); has {
			fmt.Sscan(many, &times)
			one = rest
		}
		name, rest, _ := strings.Cut(one, " ")
		o := impl.Op{Kind: 1 + slices.Index(names, name)}
		switch o.Kind {
		case 0:
			panic("no op: " + one)
		case 1:
			leaf := leafOf(rest)
			o.Path, o.Value = leaf.Path, leaf.Value
		case 2:
			o.Path = wayOf(rest)
		case 4, 6:
			fmt.Sscan(rest, &o.N)
		}
		l = append(l, slices.Repeat([]impl.Op{o}, times)...)
	}
	return l
}

func oneOp(text string) impl.Op {
	return opsOf(text)[0]
}

func sameStore(a, b impl.Store) bool {
	return a.Left == b.Left && sameConfig(a.Candidate, b.Candidate) && sameConfig(a.Running, b.Running) && slices.EqualFunc(a.History, b.History, sameConfig)
}

// isZeroStore asks also behind the lengths.
func isZeroStore(s impl.Store) bool {
	return s.Left == 0 && len(s.Candidate) == 0 && len(s.Running) == 0 && len(s.History) == 0
}

// storeModel has configurations as texts, all that was ever confirmed, the newest one last, and the tick at which what runs is taken back (0, where nothing waits).
type storeModel struct {
	candidate, running string
	confirmed          []string
	now, due           int
}

func storeModelOf(s impl.Store) *storeModel {
	m := &storeModel{candidate: leavesText(s.Candidate), running: leavesText(s.Running), now: 1000}
	for _, l := range s.History {
		m.confirmed = slices.Insert(m.confirmed, 0, leavesText(l))
	}
	if s.Left > 0 {
		m.due = m.now + s.Left
	}
	return m
}

func newStoreModel() *storeModel {
	return &storeModel{candidate: "version=0", running: "version=0", confirmed: []string{"version=0"}, now: 1}
}

func (m *storeModel) store() impl.Store {
	s := impl.Store{Candidate: leavesOf(m.candidate), Running: leavesOf(m.running)}
	for _, text := range m.confirmed[max(0, len(m.confirmed)-mostHistory):] {
		s.History = slices.Insert(s.History, 0, leavesOf(text))
	}
	if m.due > 0 {
		s.Left = m.due - m.now
	}
	return s
}

func (m *storeModel) newest() string {
	return m.confirmed[len(m.confirmed)-1]
}

func (m *storeModel) confirm() {
	if m.running != m.newest() {
		m.confirmed = append(m.confirmed, m.running)
	}
	m.due = 0
}

func (m *storeModel) edit(o impl.Op) bool {
	leaves := configModelOf(leavesOf(m.candidate))
	path := strings.Join(o.Path, " ")
	if !isWayByWords(o.Path) {
		return false
	}
	if o.Kind == 1 && (!oneWord.MatchString(o.Value) || !leaves.set(path, o.Value)) || o.Kind == 2 && !leaves.remove(path) {
		return false
	}
	m.candidate = leavesText(leaves.leaves())
	return true
}

// do tells whether the op was done.
func (m *storeModel) do(o impl.Op) bool {
	filled := ""
	for i, is := range []bool{len(o.Path) > 0, len(o.Value) > 0, o.N != 0} {
		if is {
			filled += "pvn"[i : i+1]
		}
	}
	uses, known := map[int]string{1: "pv", 2: "p", 3: "", 4: "n", 5: "", 6: "n", 7: "", 8: ""}[o.Kind]
	if !known || strings.Trim(filled, uses) != "" {
		return false
	}
	switch o.Kind {
	case 1, 2:
		return m.edit(o)
	case 3:
		m.running = m.candidate
		m.confirm()
	case 4:
		if o.N < 1 || o.N > mostTicks {
			return false
		}
		m.running, m.due = m.candidate, m.now+o.N
		if m.running == m.newest() {
			m.due = 0
		}
	case 5:
		if m.due == 0 {
			return false
		}
		m.confirm()
	case 6:
		if o.N < 0 || o.N >= mostHistory || o.N >= len(m.confirmed) {
			return false
		}
		m.candidate = m.confirmed[len(m.confirmed)-1-o.N]
	case 7:
		m.candidate = m.running
	case 8:
		return m.tick()
	}
	return true
}

func (m *storeModel) tick() bool {
	if m.due == 0 {
		return false
	}
	m.now++
	if m.now == m.due {
		m.running, m.due = m.newest(), 0
	}
	return true
}

func playByModel(l []impl.Op) (impl.Store, []bool) {
	m := newStoreModel()
	var did []bool
	for _, o := range l {
		did = append(did, m.do(o))
	}
	return m.store(), did
}

func goodStoreByWords(s impl.Store) bool {
	if len(s.History) < 1 || len(s.History) > mostHistory {
		return false
	}
	for _, l := range append([][]impl.Leaf{s.Candidate, s.Running}, s.History...) {
		if len(l) > mostLeaves || !goodConfigByWords(l) {
			return false
		}
	}
	if leavesText(s.Running) == leavesText(s.History[0]) {
		return s.Left == 0
	}
	return s.Left >= 1 && s.Left <= mostTicks
}

// brief keeps configurations of all that there is room for out of what a fault tells.
func brief(v any) string {
	return fmt.Sprintf("%.1500s", fmt.Sprint(v))
}

func lookAtOp(t *testing.T, s impl.Store, o impl.Op, want impl.Store) {
	t.Helper()
	if got, ok := impl.StepStore(s, o); !sameStore(got, want) || !ok {
		t.Errorf("StepStore(%s, %s) = %s, %v, not %s", brief(s), brief(o), brief(got), ok, brief(want))
	}
}

func refusesOp(t *testing.T, s impl.Store, o impl.Op) {
	t.Helper()
	if got, ok := impl.StepStore(s, o); !isZeroStore(got) || ok {
		t.Errorf("StepStore(%s, %s) = %s, %v", brief(s), brief(o), brief(got), ok)
	}
}

func lookAtOps(t *testing.T, l []impl.Op, want impl.Store, wantDid ...bool) {
	t.Helper()
	if got, did, ok := impl.PlayOps(l); !sameStore(got, want) || !slices.Equal(did, wantDid) || !ok {
		t.Errorf("PlayOps(%s) = %s, %v, %v, not %s, %v", brief(l), brief(got), did, ok, brief(want), wantDid)
	}
}

func refusesOps(t *testing.T, l []impl.Op) {
	t.Helper()
	if got, did, ok := impl.PlayOps(l); !isZeroStore(got) || len(did) != 0 || ok {
		t.Errorf("PlayOps of %d ops = %s, %v, %v", len(l), brief(got), did, ok)
	}
}

// lookAtStore asks of a good store all that may be asked.
func lookAtStore(t *testing.T, s impl.Store) {
	t.Helper()
	if !impl.GoodStore(s) || !goodStoreByWords(s) {
		t.Errorf("%s is not good", brief(s))
	}
	if got, ok := impl.ConfirmedOf(s); !sameConfig(got, s.History[0]) || !ok {
		t.Errorf("ConfirmedOf(%s) = %s, %v", brief(s), brief(got), ok)
	}
	if got, ok := impl.TicksLeft(s); got != s.Left || !ok {
		t.Errorf("TicksLeft(%s) = %v, %v", brief(s), got, ok)
	}
	if got, ok := impl.PendingOf(s); !sameCommands(got, diffByModel(s.Running, s.Candidate)) || !ok {
		t.Errorf("PendingOf(%s) = %s, %v", brief(s), brief(got), ok)
	}
}

func refusesStore(t *testing.T, name string, s impl.Store) {
	t.Helper()
	if impl.GoodStore(s) {
		t.Errorf("%s: is good", name)
	}
	if got, ok := impl.ConfirmedOf(s); len(got) != 0 || ok {
		t.Errorf("%s: ConfirmedOf: %s, %v", name, brief(got), ok)
	}
	if got, ok := impl.TicksLeft(s); got != 0 || ok {
		t.Errorf("%s: TicksLeft: %v, %v", name, got, ok)
	}
	if got, ok := impl.PendingOf(s); len(got) != 0 || ok {
		t.Errorf("%s: PendingOf: %s, %v", name, brief(got), ok)
	}
}

// stopAtFault keeps rows by the thousand from telling one fault by the thousand.
func stopAtFault(t *testing.T) {
	t.Helper()
	if t.Failed() {
		t.FailNow()
	}
}

// lookAtStepped holds one step against the model, and tells the store behind it (as it was, where nothing was done).
func lookAtStepped(t *testing.T, s impl.Store, o impl.Op) (impl.Store, bool) {
	t.Helper()
	m := storeModelOf(s)
	if !m.do(o) {
		refusesOp(t, s, o)
		stopAtFault(t)
		return s, false
	}
	want := m.store()
	lookAtOp(t, s, o, want)
	lookAtStore(t, want)
	stopAtFault(t)
	return want, true
}

// mustStep is asked of what is done.
func mustStep(t *testing.T, s impl.Store, o impl.Op) impl.Store {
	t.Helper()
	then, ok := impl.StepStore(s, o)
	if !ok {
		t.Fatalf("StepStore(%s, %s): false", brief(s), brief(o))
	}
	return then
}

func storeBy(text string) impl.Store {
	s, _, _ := impl.PlayOps(opsOf(text))
	return s
}

// historyOf has so many configurations, each with the leaf n and how old it is; the newest one is 0.
func historyOf(many int) [][]impl.Leaf {
	var l [][]impl.Leaf
	for i := range many {
		l = append(l, leavesOf(fmt.Sprint("n=", i)))
	}
	return l
}

// settledStore has nothing to confirm.
func settledStore(many int, candidate string) impl.Store {
	history := historyOf(many)
	return impl.Store{Candidate: leavesOf(candidate), Running: leavesOf("n=0"), History: history}
}

func waitingStore(many, left int, running, candidate string) impl.Store {
	return impl.Store{Candidate: leavesOf(candidate), Running: leavesOf(running), History: historyOf(many), Left: left}
}

func goodStores() map[string]impl.Store {
	full, deep := topLeaves(mostLeaves), deepLeaves(mostLeaves)
	all := map[string]impl.Store{
		"the new one":                       {Candidate: leavesOf("version=0"), Running: leavesOf("version=0"), History: [][]impl.Leaf{leavesOf("version=0")}},
		"without leaves":                    {History: [][]impl.Leaf{nil}},
		"empty lists":                       {Candidate: []impl.Leaf{}, Running: []impl.Leaf{}, History: [][]impl.Leaf{{}}},
		"nil and empty":                     {Running: []impl.Leaf{}, History: [][]impl.Leaf{nil}},
		"running none, waiting":             {History: [][]impl.Leaf{leavesOf("a=1")}, Left: 3},
		"running, none before":              {Running: leavesOf("a=1"), History: [][]impl.Leaf{{}}, Left: 3},
		"all alike":                         {Candidate: leavesOf("a=1"), Running: leavesOf("a=1"), History: [][]impl.Leaf{leavesOf("a=1"), leavesOf("a=1"), leavesOf("a=1")}},
		"two alike behind":                  {Running: leavesOf("a=1"), History: [][]impl.Leaf{leavesOf("a=1"), leavesOf("b=1"), leavesOf("b=1")}},
		"two alike apart":                   {Running: leavesOf("a=1"), History: [][]impl.Leaf{leavesOf("a=1"), leavesOf("b=1"), leavesOf("a=1")}},
		"two alike, waiting":                {Running: leavesOf("b=1"), History: [][]impl.Leaf{leavesOf("a=1"), leavesOf("a=1")}, Left: 100},
		"running an old one, waiting":       waitingStore(3, 7, "n=1", "n=0"),
		"running the oldest one, waiting":   waitingStore(mostHistory, 7, "n=9", "n=9"),
		"the candidate is none of these":    settledStore(2, "a b=1, a c=2, d=3"),
		"the candidate is an old one":       settledStore(mostHistory, "n=9"),
		"the candidate is the newest":       waitingStore(2, 1, "a=1", "n=0"),
		"all full":                          {Candidate: full, Running: full, History: slices.Repeat([][]impl.Leaf{full}, mostHistory)},
		"all full, waiting":                 {Candidate: full, Running: deep, History: slices.Repeat([][]impl.Leaf{full}, mostHistory), Left: 50},
		"texts of which would be too long":  {Candidate: deep, Running: deep, History: [][]impl.Leaf{deep, full}},
		"running with one more, waiting":    {Running: topLeaves(3), History: [][]impl.Leaf{topLeaves(2)}, Left: 9},
		"running with one less, waiting":    {Running: topLeaves(2), History: [][]impl.Leaf{topLeaves(3)}, Left: 9},
		"another word in the path, waiting": {Running: leavesOf("a b=1"), History: [][]impl.Leaf{leavesOf("a c=1")}, Left: 9},
	}
	for many := 1; many <= mostHistory; many++ {
		all[fmt.Sprint(many, " of History")] = settledStore(many, "n=5")
		all[fmt.Sprint(many, " of History, waiting")] = waitingStore(many, 4*many, "a=1", "n=2")
	}
	for _, left := range []int{1, 2, 3, 50, 98, 99, 100} {
		all[fmt.Sprint(left, " ticks left")] = waitingStore(2, left, "a=1", "b=2")
	}
	return all
}

// unlikePairs are configurations that are not the same one, by one thing alone.
func unlikePairs() [][2]string {
	return [][2]string{
		{"a=1", "a=2"}, {"a=1", "b=1"}, {"a=1", ""}, {"a=1", "a b=1"}, {"a b=1", "ab=1"}, {"a b=1", "a c=1"}, {"a b=1", "c b=1"},
		{"a=1, b=2", "a=1"}, {"a=1, b=2", "b=2"}, {"a=1, b=2", "a=1, b=1"}, {"a=1, b=2", "a=2, b=1"}, {"a=1, b=2", "a=2, b=2"}, {"a=1, b=2", "a=1, b=2, c=3"},
		{"a b c d e=1", "a b c d f=1"}, {"a b c d e=1", "a b c d=1"}, {"a b c d e=1", "a b c d e=2"}, {"a=-", "a=--"}, {"a-=1", "a=1"},
	}
}

func badLefts() []int {
	return []int{math.MinInt, math.MinInt + 1, -1 << 32, -101, -100, -2, -1, 101, 102, 200, 256, 1 << 16, 1 << 32, 1<<32 + 1, math.MaxInt - 1, math.MaxInt}
}

// badStores have one thing each that is not as said.
func badStores() map[string]impl.Store {
	full := topLeaves(mostLeaves)
	all := map[string]impl.Store{
		"the zero one":                 {},
		"no History":                   {Candidate: leavesOf("a=1"), Running: leavesOf("a=1")},
		"an empty History":             {Candidate: leavesOf("a=1"), Running: leavesOf("a=1"), History: [][]impl.Leaf{}},
		"no History, waiting":          waitingStore(0, 5, "a=1", "a=1"),
		"one more of History":          settledStore(mostHistory+1, "a=1"),
		"one more of History, waiting": waitingStore(mostHistory+1, 5, "a=1", "a=1"),
		"two more of History":          settledStore(mostHistory+2, "a=1"),
		"far too many of History":      {Running: full, History: slices.Repeat([][]impl.Leaf{full}, 20000)},
		"far too many empty ones":      {History: make([][]impl.Leaf, 100000)},
	}
	for _, left := range badLefts() {
		s := settledStore(2, "a=1")
		s.Left = left
		all[fmt.Sprint("Left ", left)] = s
		all[fmt.Sprint("Left ", left, ", waiting")] = waitingStore(2, left, "a=1", "a=1")
	}
	for left := range mostTicks {
		s := settledStore(2, "a=1")
		s.Left = left + 1
		all[fmt.Sprint("Left ", s.Left, " of the newest one")] = s
	}
	all["Left 0 of an old one"] = waitingStore(3, 0, "n=1", "n=0")
	all["Left 0 of the oldest one"] = waitingStore(mostHistory, 0, "n=9", "n=9")
	for _, pair := range unlikePairs() {
		for i := range pair {
			all[fmt.Sprint("Left 0, not the newest one ", pair, i)] = impl.Store{Running: leavesOf(pair[i]), History: [][]impl.Leaf{leavesOf(pair[1-i])}}
		}
	}
	for name, bad := range badConfigs() {
		candidate, waits := settledStore(2, ""), waitingStore(2, 5, "a=1", "b=1")
		candidate.Candidate, waits.Running = bad, bad
		all["Candidate: "+name] = candidate
		all["Running: "+name] = waits
		all["Running and newest: "+name] = impl.Store{Running: bad, History: [][]impl.Leaf{bad}}
		for many := 1; many <= mostHistory; many += 3 {
			at := len(name) % many
			s := waitingStore(many, 5, "a=1", "b=1")
			s.History[at] = bad
			all[fmt.Sprint("History ", at, " of ", many, ": ", name)] = s
		}
	}
	for many := 1; many <= mostHistory; many++ {
		for at := range many {
			s := settledStore(many, "a=1")
			s.History[at] = leavesOf("a=1, a b=2")
			s.Left = map[bool]int{at == 0: 5}[true]
			all[fmt.Sprint("one that is bad at ", at, " of ", many)] = s
		}
	}
	return all
}

func TestStoresAreGoodByTheirWords(t *testing.T) {
	for name, s := range goodStores() {
		if !impl.GoodStore(s) || !goodStoreByWords(s) {
			t.Errorf("%s: is not good", name)
		}
		lookAtStore(t, s)
	}
	for name, s := range badStores() {
		if goodStoreByWords(s) {
			t.Fatalf("%s: is good by the words", name)
		}
		refusesStore(t, name, s)
	}
}

func TestHistoryFromNoneToOneMore(t *testing.T) {
	for many := range mostHistory + 4 {
		good := many >= 1 && many <= mostHistory
		if got := impl.GoodStore(settledStore(many, "a=1")); got != good {
			t.Errorf("%d: %v", many, got)
		}
		if got := impl.GoodStore(waitingStore(many, 1, "a=1", "a=1")); got != good {
			t.Errorf("%d, waiting: %v", many, got)
		}
	}
}

// TestLeftTellsWhetherTheNewestOneRuns goes through all Lefts, of both.
func TestLeftTellsWhetherTheNewestOneRuns(t *testing.T) {
	for left := -3; left <= mostTicks+3; left++ {
		s := settledStore(2, "a=1")
		s.Left = left
		if got := impl.GoodStore(s); got != (left == 0) {
			t.Errorf("the newest one, %d: %v", left, got)
		}
		if got := impl.GoodStore(waitingStore(2, left, "n=1", "a=1")); got != (left >= 1 && left <= mostTicks) {
			t.Errorf("another one, %d: %v", left, got)
		}
	}
	for _, pair := range unlikePairs() {
		for i := range pair {
			for _, newest := range pair {
				s := impl.Store{Running: leavesOf(pair[i]), History: [][]impl.Leaf{leavesOf(newest), leavesOf(pair[0]), leavesOf(pair[1])}}
				same := pair[i] == newest
				if got := impl.GoodStore(s); got != same {
					t.Errorf("%v, Left 0: %v", s, got)
				}
				s.Left = 1
				if got := impl.GoodStore(s); got == same {
					t.Errorf("%v, Left 1: %v", s, got)
				}
			}
		}
	}
}

func TestTheNewStore(t *testing.T) {
	s := impl.NewStore()
	version := leavesOf("version=0")
	if !sameConfig(s.Candidate, version) || !sameConfig(s.Running, version) || len(s.History) != 1 || !sameConfig(s.History[0], version) || s.Left != 0 {
		t.Error(s)
	}
	lookAtStore(t, s)
	if got, ok := impl.PendingOf(s); len(got) != 0 || !ok {
		t.Error(got, ok)
	}
	lookAtLists(t, "NewStore", slices.Concat(storeLists("one", s), storeLists("another one", impl.NewStore())))
	lookAtOps(t, nil, goodStores()["the new one"])
}

// lookAtConfirmed asks of a store that waits what an OpConfirm makes of it, once and for all.
func lookAtConfirmed(t *testing.T, s impl.Store) {
	t.Helper()
	then := mustStep(t, s, oneOp("confirm"))
	want := s
	want.Left = 0
	want.History = slices.Concat([][]impl.Leaf{s.Running}, s.History)
	if len(want.History) > mostHistory {
		want.History = want.History[:mostHistory]
	}
	if !sameStore(then, want) {
		t.Errorf("%s confirmed: %s, not %s", brief(s), brief(then), brief(want))
	}
	refusesOp(t, then, oneOp("tick"))
	refusesOp(t, then, oneOp("confirm"))
	if got, ok := impl.ConfirmedOf(then); !sameConfig(got, s.Running) || !ok {
		t.Error(brief(got), ok)
	}
	again := mustStep(t, mustStep(t, then, oneOp("discard")), oneOp("commit"))
	if !slices.EqualFunc(again.History, want.History, sameConfig) {
		t.Errorf("%s confirmed and committed: %s", brief(s), brief(again))
	}
}

// lookAtWait asks what OpCommitFor of N makes of a store whose Candidate is not the newest one of History.
func lookAtWait(t *testing.T, s impl.Store, n int) {
	t.Helper()
	then := mustStep(t, s, impl.Op{Kind: impl.OpCommitFor, N: n})
	want := s
	want.Running = s.Candidate
	for want.Left = n; want.Left > 0; want.Left-- {
		if !sameStore(then, want) {
			t.Fatalf("%s for %d: %s, not %s", brief(s), n, brief(then), brief(want))
		}
		if want.Left <= 3 || want.Left >= n-2 || want.Left%17 == 0 {
			lookAtConfirmed(t, then)
		}
		then = mustStep(t, then, oneOp("tick"))
	}
	want.Running = s.History[0]
	if !sameStore(then, want) {
		t.Errorf("%s for %d, behind the last tick: %s, not %s", brief(s), n, brief(then), brief(want))
	}
	refusesOp(t, then, oneOp("tick"))
	refusesOp(t, then, oneOp("confirm"))
	stopAtFault(t)
}

func TestWhatIsNotConfirmedIsTakenBackAtItsLastTick(t *testing.T) {
	for _, s := range goodStores() {
		if sameConfig(s.Candidate, s.History[0]) {
			continue
		}
		for _, n := range []int{1, 2, 3, 10, 99, 100} {
			lookAtWait(t, s, n)
		}
	}
	for n := 1; n <= mostTicks; n++ {
		lookAtWait(t, settledStore(2, "a=1"), n)
		lookAtWait(t, waitingStore(mostHistory, 1+n%5, "b=1", "a=1"), n)
	}
}

// TestWhatIsPlayedIsTakenBackAtItsLastTick plays it with each number of ticks that there is room for, confirmed behind each of them, or not.
func TestWhatIsPlayedIsTakenBackAtItsLastTick(t *testing.T) {
	version, one := leavesOf("version=0"), leavesOf("a=1, version=0")
	for n := 1; n <= mostTicks; n++ {
		for ticks := 0; ticks <= mostOps-4; ticks++ {
			l := opsOf(fmt.Sprint("set a=1; for ", n, "; ", ticks, "*tick"))
			want := impl.Store{Candidate: one, Running: one, History: [][]impl.Leaf{version}, Left: n - ticks}
			did := slices.Repeat([]bool{true}, len(l))
			if ticks >= n {
				want.Running, want.Left = version, 0
				clear(did[2+n:])
			}
			lookAtOps(t, l, want, did...)
			l, did = append(l, opsOf("confirm; tick")...), append(did, ticks < n, false)
			if ticks < n {
				want.Left, want.History = 0, [][]impl.Leaf{one, version}
			}
			lookAtOps(t, l, want, did...)
			stopAtFault(t)
		}
	}
}

// TestTheCandidateMayChangeWhileItWaits: what runs, and how long it may, hangs on ticks alone.
func TestTheCandidateMayChangeWhileItWaits(t *testing.T) {
	version, one := leavesOf("version=0"), leavesOf("a=1, version=0")
	for _, c := range []struct{ ops, candidate string }{
		{"set a=2", "a=2, version=0"},
		{"delete a", "version=0"},
		{"delete version", "a=1"},
		{"delete a; delete version", ""},
		{"back 0", "version=0"},
		{"back 0; discard", "a=1, version=0"},
		{"discard", "a=1, version=0"},
		{"set b c d=3; set b=1", "a=1, b=1, version=0"},
		{"back 1; back 9; delete b; set a=2; set a=1", "a=1, version=0"},
	} {
		ops := fmt.Sprint("set a=1; for 3; tick; ", c.ops, "; tick")
		s := storeBy(ops)
		want := impl.Store{Candidate: leavesOf(c.candidate), Running: one, History: [][]impl.Leaf{version}, Left: 1}
		if !sameStore(s, want) {
			t.Errorf("%s: %v, not %v", ops, s, want)
		}
		want.Running, want.Left = version, 0
		lookAtOp(t, s, oneOp("tick"), want)
		want.Running, want.History = one, [][]impl.Leaf{one, version}
		lookAtOp(t, s, oneOp("confirm"), want)
		lookAtOp(t, mustStep(t, s, oneOp("confirm")), oneOp("discard"), impl.Store{Candidate: one, Running: one, History: want.History})
		lookAtOp(t, mustStep(t, s, oneOp("tick")), oneOp("discard"), impl.Store{Candidate: version, Running: version, History: [][]impl.Leaf{version}})
	}
}

// lookAtPromise16 plays a row of ops, and holds each store on the way, and whether each op was done, against the model; it counts what was met.
func lookAtPromise16(t *testing.T, l []impl.Op, counts map[string]int) {
	t.Helper()
	s, m := impl.NewStore(), newStoreModel()
	var did []bool
	for _, o := range l {
		then, done := lookAtStepped(t, s, o)
		if done != m.do(o) || !sameStore(then, m.store()) {
			t.Fatalf("%v at %v: %v, not %v", l, o, then, m.store())
		}
		if (then.Left == 0) != sameConfig(then.Running, then.History[0]) {
			t.Fatalf("%v at %v: %v", l, o, then)
		}
		countStep(counts, s, o, then, done)
		s, did = then, append(did, done)
	}
	lookAtOps(t, l, s, did...)
	stopAtFault(t)
}

func countStep(counts map[string]int, s impl.Store, o impl.Op, then impl.Store, done bool) {
	name := strings.Fields("set delete commit for confirm back discard tick")[o.Kind-1]
	counts[fmt.Sprint(name, " ", done)]++
	switch {
	case !done:
	case o.Kind == impl.OpTick && then.Left == 0:
		counts["taken back"]++
	case o.Kind == impl.OpCommit && s.Left > 0 && len(then.History) == len(s.History):
		counts["back to the newest by a commit"]++
	case o.Kind == impl.OpCommitFor && s.Left > 0 && then.Left > 0:
		counts["a for behind a for"]++
	case o.Kind == impl.OpCommitFor && s.Left > 0:
		counts["back to the newest by a for"]++
	case o.Kind == impl.OpConfirm && len(s.History) == mostHistory:
		counts["the oldest one goes by a confirm"]++
	case o.Kind == impl.OpCommit && len(s.History) == mostHistory && !sameConfig(s.History[0], then.History[0]):
		counts["the oldest one goes by a commit"]++
	}
	if len(then.History) == mostHistory {
		counts["full"]++
	}
}

const metInRows = "set true, delete true, delete false, commit true, for true, confirm true, confirm false, back true, back false, discard true, tick true, tick false, taken back, back to the newest by a commit, back to the newest by a for, a for behind a for"

func metAll(t *testing.T, counts map[string]int, least int, names string) {
	t.Helper()
	for _, name := range strings.Split(names, ", ") {
		if counts[name] < least {
			t.Error("not met:", name, counts)
		}
	}
}

func TestAllShortRowsOfOps(t *testing.T) {
	counts := map[string]int{}
	eachRow(opsOf("set a=1; set version=1; delete a; delete version; commit; for 1; for 2; confirm; back 0; back 1; discard; tick"), 3, func(l []impl.Op) {
		lookAtPromise16(t, l, counts)
	})
	eachRow(opsOf("set a=1; delete a; commit; for 2; confirm; tick"), 5, func(l []impl.Op) {
		lookAtPromise16(t, l, counts)
	})
	metAll(t, counts, 15, metInRows)
}

// TestAllShortRowsBehindAWait goes on from a store that waits.
func TestAllShortRowsBehindAWait(t *testing.T) {
	eachRow(opsOf("set a=2; commit; for 1; for 2; confirm; back 0; back 1; discard; tick"), 3, func(l []impl.Op) {
		lookAtPromise16(t, append(opsOf("set a=1; for 2"), l...), map[string]int{})
	})
}

// mixedOp is one by itself, whatever it leads to.
func mixedOp(words []string, r *rand.Rand) impl.Op {
	o := impl.Op{Kind: 1 + r.Intn(8)}
	switch o.Kind {
	case impl.OpSet:
		o.Path, o.Value = wayOf(mixedWay(words, r)), fmt.Sprint(r.Intn(3))
	case impl.OpDelete:
		o.Path = wayOf(mixedWay(words, r))
	case impl.OpCommitFor:
		o.N = 1 + r.Intn(5)
	case impl.OpRollback:
		o.N = r.Intn(mostHistory)
	}
	return o
}

// mixedOps goes by plans, so that much is confirmed, much is taken back, and much comes between.
func mixedOps(many int, r *rand.Rand) []impl.Op {
	var l []impl.Op
	words := mixedWords(r)[:2]
	plans := []string{"commit", "commit", "for 3; tick; confirm", "for 2; 2*tick", "for 1; tick", "for 2; back 0; commit", "for 4; tick; back 0; for 3", "for 3; tick", "for 5; confirm; tick", "back 3; commit", "discard"}
	spare := r.Intn(6)
	for len(l) < many {
		l = append(l, impl.Op{Kind: impl.OpSet, Path: wayOf(mixedWay(words, r)), Value: fmt.Sprint(r.Intn(50))})
		for _, o := range opsOf(plans[r.Intn(len(plans))]) {
			for r.Intn(10) < spare {
				l = append(l, mixedOp(words, r))
			}
			l = append(l, o)
		}
	}
	return l[:many]
}

func TestManyRowsOfOps(t *testing.T) {
	r := rand.New(rand.NewSource(160))
	counts := map[string]int{}
	for i := range 1200 {
		lookAtPromise16(t, mixedOps(min(i%(2*mostOps), mostOps), r), counts)
	}
	metAll(t, counts, 50, metInRows+", full, the oldest one goes by a confirm, the oldest one goes by a commit")
}

// allOps has each kind with what it may have, and with what it may not.
func allOps() []impl.Op {
	l := opsOf("set a=1; set a=2; set n=0; set n x=1; set version=0; set a b c d e=f; delete a; delete n; delete n x; delete zz; commit; confirm; discard; tick")
	for n := -1; n <= mostHistory+1; n++ {
		l = append(l, impl.Op{Kind: impl.OpRollback, N: n})
	}
	for _, n := range []int{-1, 0, 1, 2, 3, 50, 99, 100, 101} {
		l = append(l, impl.Op{Kind: impl.OpCommitFor, N: n})
	}
	return l
}

// TestEachOpOfEachStore steps twice from each store, whether PlayOps can make it or not.
func TestEachOpOfEachStore(t *testing.T) {
	for _, s := range goodStores() {
		for _, o := range allOps() {
			then, done := lookAtStepped(t, s, o)
			for _, next := range allOps() {
				if done {
					lookAtStepped(t, then, next)
				}
			}
		}
	}
}

func TestEachKindOfManyStores(t *testing.T) {
	r := rand.New(rand.NewSource(161))
	for range 1500 {
		words := mixedWords(r)
		config := func() []impl.Leaf { return mixedConfig(nil, words, r.Intn(12), r) }
		s := impl.Store{Candidate: config(), Running: config()}
		for range 1 + r.Intn(mostHistory) {
			s.History = append(s.History, config())
		}
		switch r.Intn(4) {
		case 0:
			s.Running = s.History[0]
		case 1:
			s.Candidate = s.History[0]
		case 2:
			s.Candidate = s.Running
		}
		if !sameConfig(s.Running, s.History[0]) {
			s.Left = 1 + r.Intn(mostTicks)
		}
		lookAtStore(t, s)
		for _, o := range append(mixedOps(10, r), allOps()...) {
			lookAtStepped(t, s, o)
		}
	}
}

// lookAtEdit holds a set or a delete against chapter 15.
func lookAtEdit(t *testing.T, s impl.Store, o impl.Op) {
	t.Helper()
	l, ok := impl.SetAt(s.Candidate, o.Path, o.Value)
	if o.Kind == impl.OpDelete {
		l, ok = impl.DeleteAt(s.Candidate, o.Path)
	}
	if !ok {
		refusesOp(t, s, o)
		return
	}
	want := s
	want.Candidate = l
	lookAtOp(t, s, o, want)
}

func TestSetAndDeleteAreAsSetAtAndDeleteAt(t *testing.T) {
	for _, s := range goodStores() {
		for _, candidate := range goodConfigs()[:17] {
			s.Candidate = candidate
			for _, path := range []string{"a", "a b", "a b c d e", "n", "b", "version", "w000000", "w000000 x", "w000029", "deep0000", "deep0000 abcdefgh", "zzzzzzzz", "-"} {
				lookAtEdit(t, s, impl.Op{Kind: impl.OpSet, Path: wayOf(path), Value: "1"})
				lookAtEdit(t, s, impl.Op{Kind: impl.OpDelete, Path: wayOf(path)})
			}
		}
	}
	for _, s := range []impl.Store{settledStore(2, "a=1, b c=2"), waitingStore(2, 5, "a=1", "a b c d e=1")} {
		for _, path := range badWays() {
			refusesOp(t, s, impl.Op{Kind: impl.OpSet, Path: path, Value: "1"})
			refusesOp(t, s, impl.Op{Kind: impl.OpDelete, Path: path})
		}
		for _, value := range badWords() {
			refusesOp(t, s, impl.Op{Kind: impl.OpSet, Path: wayOf("a"), Value: value})
		}
		for _, value := range goodWords() {
			lookAtEdit(t, s, impl.Op{Kind: impl.OpSet, Path: wayOf("a"), Value: value})
			lookAtEdit(t, s, impl.Op{Kind: impl.OpSet, Path: []string{value}, Value: "1"})
		}
	}
}

func TestSetOfOneMoreThanMaxLeaves(t *testing.T) {
	for many := mostLeaves - 2; many <= mostLeaves; many++ {
		s := settledStore(2, "")
		s.Candidate = topLeaves(many)
		lookAtEdit(t, s, oneOp("set a=1"))
		lookAtEdit(t, s, oneOp("set w000000 a=1"))
		lookAtEdit(t, s, oneOp("set w000000=1"))
		if _, ok := impl.StepStore(s, oneOp("set a=1")); ok != (many < mostLeaves) {
			t.Error(many, ok)
		}
	}
}

func TestCommitOfWhatIsTheNewestOneAlready(t *testing.T) {
	for many := 1; many <= mostHistory; many++ {
		s := settledStore(many, "n=0")
		lookAtOp(t, s, oneOp("commit"), s)
		waits := waitingStore(many, 9, "a=1", "n=0")
		lookAtOp(t, waits, oneOp("commit"), s)
	}
}

// TestCommitOfAnotherOne asks also where it is an old one: it comes ahead of all once more.
func TestCommitOfAnotherOne(t *testing.T) {
	for many := 1; many <= mostHistory; many++ {
		for _, candidate := range []string{"a=1", "", "n=1", "n=9", "n=0, x=1", "n=00"} {
			want := impl.Store{Candidate: leavesOf(candidate), Running: leavesOf(candidate), History: [][]impl.Leaf{leavesOf(candidate)}}
			want.History = append(want.History, historyOf(min(many, mostHistory-1))...)
			lookAtOp(t, settledStore(many, candidate), oneOp("commit"), want)
			for _, left := range []int{1, 50, 100} {
				lookAtOp(t, waitingStore(many, left, "b=1", candidate), oneOp("commit"), want)
				lookAtOp(t, waitingStore(many, left, candidate+", zz=1", candidate), oneOp("commit"), want)
			}
			if candidate != "n=0" {
				lookAtOp(t, waitingStore(many, 7, candidate, candidate), oneOp("commit"), want)
			}
		}
	}
}

func TestCommitFor(t *testing.T) {
	for many := 1; many <= mostHistory; many++ {
		for _, s := range []impl.Store{settledStore(many, "a=1"), waitingStore(many, 1, "b=1", "a=1"), waitingStore(many, 100, "a=1", "a=1"), waitingStore(many, 50, "n=5", "a=1")} {
			for n := 1; n <= mostTicks; n++ {
				lookAtOp(t, s, impl.Op{Kind: impl.OpCommitFor, N: n}, waitingStore(many, n, "a=1", "a=1"))
			}
			for _, n := range append(badLefts(), 0) {
				refusesOp(t, s, impl.Op{Kind: impl.OpCommitFor, N: n})
			}
		}
		for _, s := range []impl.Store{settledStore(many, "n=0"), waitingStore(many, 1, "b=1", "n=0"), waitingStore(many, 100, "n=5", "n=0")} {
			for _, n := range []int{1, 2, 50, 99, 100} {
				lookAtOp(t, s, impl.Op{Kind: impl.OpCommitFor, N: n}, settledStore(many, "n=0"))
			}
			for _, n := range append(badLefts(), 0) {
				refusesOp(t, s, impl.Op{Kind: impl.OpCommitFor, N: n})
			}
		}
		if many > 1 {
			lookAtOp(t, settledStore(many, "n=1"), oneOp("for 3"), waitingStore(many, 3, "n=1", "n=1"))
		}
	}
}

func TestConfirm(t *testing.T) {
	for many := 1; many <= mostHistory; many++ {
		refusesOp(t, settledStore(many, "n=0"), oneOp("confirm"))
		refusesOp(t, settledStore(many, "a=1"), oneOp("confirm"))
		for _, running := range []string{"a=1", "", "n=1", "n=9", "n=10"} {
			for _, candidate := range []string{"a=1", "b=1", "n=0", ""} {
				for _, left := range []int{1, 2, 99, 100} {
					want := impl.Store{Candidate: leavesOf(candidate), Running: leavesOf(running), History: [][]impl.Leaf{leavesOf(running)}}
					want.History = append(want.History, historyOf(min(many, mostHistory-1))...)
					lookAtOp(t, waitingStore(many, left, running, candidate), oneOp("confirm"), want)
				}
			}
		}
	}
}

func TestRollback(t *testing.T) {
	for many := 1; many <= mostHistory; many++ {
		for _, s := range []impl.Store{settledStore(many, "a=1"), settledStore(many, "n=0"), waitingStore(many, 5, "a=1", "b=1"), waitingStore(many, 1, "n=1", "n=1")} {
			for n := -2; n <= mostHistory+2; n++ {
				o := impl.Op{Kind: impl.OpRollback, N: n}
				if n < 0 || n >= many {
					refusesOp(t, s, o)
					continue
				}
				want := s
				want.Candidate = leavesOf(fmt.Sprint("n=", n))
				lookAtOp(t, s, o, want)
			}
			for _, n := range badLefts() {
				refusesOp(t, s, impl.Op{Kind: impl.OpRollback, N: n})
			}
		}
	}
}

func TestDiscard(t *testing.T) {
	for _, s := range goodStores() {
		want := s
		want.Candidate = s.Running
		lookAtOp(t, s, oneOp("discard"), want)
		lookAtOp(t, want, oneOp("discard"), want)
		if got, ok := impl.PendingOf(want); len(got) != 0 || !ok {
			t.Error(got, ok)
		}
	}
}

func TestTick(t *testing.T) {
	for many := 1; many <= mostHistory; many++ {
		for _, candidate := range []string{"a=1", "b=1", "n=0", "n=1", ""} {
			refusesOp(t, settledStore(many, candidate), oneOp("tick"))
			for left := 2; left <= mostTicks; left++ {
				lookAtOp(t, waitingStore(many, left, "a=1", candidate), oneOp("tick"), waitingStore(many, left-1, "a=1", candidate))
			}
			lookAtOp(t, waitingStore(many, 1, "a=1", candidate), oneOp("tick"), settledStore(many, candidate))
			lookAtOp(t, waitingStore(many, 1, "n=1", candidate), oneOp("tick"), settledStore(many, candidate))
		}
	}
}

// TestWhatIsTakenBackIsTheNewestOneAlsoWhereAnotherOneRanBefore: what waited ahead of the second OpCommitFor was not confirmed either.
func TestWhatIsTakenBackIsTheNewestOneAlsoWhereAnotherOneRanBefore(t *testing.T) {
	version := leavesOf("version=0")
	lookAtOps(t, opsOf("set a=1; for 5; tick; set a=2; for 1; tick; tick"),
		impl.Store{Candidate: leavesOf("a=2, version=0"), Running: version, History: [][]impl.Leaf{version}},
		true, true, true, true, true, true, false)
	lookAtOps(t, opsOf("set a=1; for 1; set a=2; for 3; tick; tick; confirm; tick"),
		impl.Store{Candidate: leavesOf("a=2, version=0"), Running: leavesOf("a=2, version=0"), History: [][]impl.Leaf{leavesOf("a=2, version=0"), version}},
		true, true, true, true, true, true, true, false)
	lookAtOps(t, opsOf("set a=1; for 2; tick; for 2; tick; confirm"),
		impl.Store{Candidate: leavesOf("a=1, version=0"), Running: leavesOf("a=1, version=0"), History: [][]impl.Leaf{leavesOf("a=1, version=0"), version}},
		true, true, true, true, true, true)
	lookAtOps(t, opsOf("set a=1; for 2; back 0; for 9; tick; confirm"),
		impl.Store{Candidate: version, Running: version, History: [][]impl.Leaf{version}},
		true, true, true, true, false, false)
}

func TestTheOldestOneGoes(t *testing.T) {
	var l []impl.Op
	want := impl.Store{History: [][]impl.Leaf{leavesOf("version=0")}}
	for i := range mostOps / 2 {
		l = append(l, opsOf(fmt.Sprint("set version=", i+1, "; commit"))...)
		now := leavesOf(fmt.Sprint("version=", i+1))
		want = impl.Store{Candidate: now, Running: now, History: slices.Insert(want.History, 0, now)}
		want.History = want.History[:min(len(want.History), mostHistory)]
		lookAtOps(t, l, want, slices.Repeat([]bool{true}, len(l))...)
		for number, config := range want.History {
			lookAtOp(t, want, impl.Op{Kind: impl.OpRollback, N: number}, impl.Store{Candidate: config, Running: want.Running, History: want.History})
		}
		refusesOp(t, want, impl.Op{Kind: impl.OpRollback, N: len(want.History)})
	}
}

// TestFieldsThatAnOpHasNoUseForAreZero asks at stores where the op can be done.
func TestFieldsThatAnOpHasNoUseForAreZero(t *testing.T) {
	s := waitingStore(3, 5, "a=1", "b=1, c d=2")
	uses := map[int]string{1: "pv", 2: "p", 3: "", 4: "n", 5: "", 6: "n", 7: "", 8: ""}
	for _, o := range opsOf("set a=1; delete b; commit; for 1; for 100; confirm; back 0; back 2; discard; tick") {
		lookAtStepped(t, s, o)
		if _, ok := impl.StepStore(s, o); !ok {
			t.Fatal(o)
		}
		if !strings.Contains(uses[o.Kind], "p") {
			for _, path := range [][]string{{"a"}, {""}, {"b"}, wayOf("c d"), make([]string, 3), make([]string, 100000), {"A"}} {
				with := o
				with.Path = path
				refusesOp(t, s, with)
			}
			with := o
			with.Path = []string{}
			lookAtStepped(t, s, with)
		}
		if !strings.Contains(uses[o.Kind], "v") {
			for _, value := range []string{"1", "a", "0", " ", "\x00", "A", strings.Repeat("a", 100000)} {
				with := o
				with.Value = value
				refusesOp(t, s, with)
			}
		}
		if !strings.Contains(uses[o.Kind], "n") {
			for _, n := range append(badLefts(), 1, 2, 9, 10, 100) {
				with := o
				with.N = n
				refusesOp(t, s, with)
			}
		}
	}
}

func TestKindsThatAreNone(t *testing.T) {
	for _, s := range []impl.Store{impl.NewStore(), settledStore(mostHistory, "a=1"), waitingStore(3, 5, "a=1", "b=1")} {
		for _, kind := range append(badLefts(), 0, 9, 10, 11, 255, 257, 258, 264, 1<<32+3, 1<<32+8, -3, -8) {
			for _, o := range append(allOps(), impl.Op{}) {
				o.Kind = kind
				refusesOp(t, s, o)
			}
		}
	}
}

func TestStoresThatAreNotGoodAreRefused(t *testing.T) {
	ops := opsOf("set a=1; delete a; delete n; commit; for 1; confirm; back 0; discard; tick")
	i := 0
	for _, s := range badStores() {
		for _, o := range ops {
			if i++; i%4 == 0 || len(s.Running) < 3 {
				refusesOp(t, s, o)
			}
		}
		refusesOp(t, s, impl.Op{})
	}
}

func TestPlayOfNoOpAndOfTooMany(t *testing.T) {
	lookAtOps(t, nil, impl.NewStore())
	lookAtOps(t, []impl.Op{}, impl.NewStore())
	for _, text := range []string{"tick", "commit", "discard", "set a=1", "delete a", "back 0", "for 5", "confirm", "back 1"} {
		for many := range mostOps + 3 {
			l := slices.Repeat(opsOf(text), many)
			if many > mostOps {
				refusesOps(t, l)
				continue
			}
			want, did := playByModel(l)
			lookAtOps(t, l, want, did...)
		}
		refusesOps(t, append(slices.Repeat(opsOf(text), mostOps), impl.Op{}))
	}
	refusesOps(t, make([]impl.Op, mostOps+1))
	refusesOps(t, make([]impl.Op, 1<<20))
	lookAtOps(t, make([]impl.Op, mostOps), impl.NewStore(), make([]bool, mostOps)...)
}

// undoneOps can be done in none of the stores, each for a reason of its own.
func undoneOps() []impl.Op {
	l := opsOf("delete zz; delete zz a; for 0; for 101; back 10; back -1; set A=1; set a=; set a=B; delete a a a a a a; set 123456789=1")
	l = append(l, impl.Op{}, impl.Op{Kind: 9}, impl.Op{Kind: -1}, impl.Op{Kind: math.MinInt}, impl.Op{Kind: impl.OpSet}, impl.Op{Kind: impl.OpDelete}, impl.Op{Kind: impl.OpCommitFor})
	l = append(l, impl.Op{Kind: impl.OpCommit, N: 1}, impl.Op{Kind: impl.OpTick, Value: "1"}, impl.Op{Kind: impl.OpDiscard, Path: wayOf("a")}, impl.Op{Kind: impl.OpConfirm, N: -1})
	return append(l, impl.Op{Kind: impl.OpSet, Path: wayOf("a"), Value: "9", N: 1}, impl.Op{Kind: impl.OpRollback, Value: "a"}, impl.Op{Kind: impl.OpCommitFor, N: 3, Path: wayOf("a")})
}

func TestOpsThatAreNotDoneChangeNothing(t *testing.T) {
	for _, row := range []string{"set a=1; commit; set a=2; for 2; tick; set b=1; tick; back 1; commit", "set a=1; for 2; tick; confirm; discard; set a b=2; for 1; set a=3; tick", "delete version; commit; back 1; for 3; commit; set version=2; for 1; back 0; for 2"} {
		l := opsOf(row)
		want, did := playByModel(l)
		lookAtOps(t, l, want, did...)
		for _, none := range undoneOps() {
			for at := range len(l) + 1 {
				lookAtOps(t, slices.Insert(slices.Clone(l), at, none), want, slices.Insert(slices.Clone(did), at, false)...)
			}
			var all []impl.Op
			var allDid []bool
			for i, o := range l {
				all, allDid = append(all, none, o, none), append(allDid, false, did[i], false)
			}
			lookAtOps(t, all, want, allDid...)
		}
		for at := range len(l) + 1 {
			lookAtOps(t, slices.Insert(slices.Clone(l), at, undoneOps()...), want, slices.Insert(slices.Clone(did), at, make([]bool, len(undoneOps()))...)...)
		}
	}
}

func TestWhatIsPendingLeadsToTheCandidate(t *testing.T) {
	r := rand.New(rand.NewSource(162))
	for range 400 {
		s, _, ok := impl.PlayOps(mixedOps(r.Intn(mostOps+1), r))
		if !ok {
			t.Fatal(s)
		}
		pending, ok := impl.PendingOf(s)
		if then, done := impl.DoCommands(s.Running, pending); !sameConfig(then, s.Candidate) || !done || !ok {
			t.Errorf("PendingOf(%v) = %v: %v, %v", s, pending, then, done)
		}
	}
	for _, c := range []struct{ ops, want string }{
		{"", ""},
		{"set a=1", "+a=1"},
		{"delete version", "/version"},
		{"set version=2", "+version=2"},
		{"set version x=2; set b=1", "/version, +b=1, +version x=2"},
		{"set a=1; commit", ""},
		{"set a=1; for 2", ""},
		{"set a=1; for 2; set a=2", "+a=2"},
		{"set a=1; for 2; back 0", "/a"},
		{"set a=1; for 1; tick", "+a=1"},
		{"set a=1; for 1; tick; discard", ""},
	} {
		if got, ok := impl.PendingOf(storeBy(c.ops)); !sameCommands(got, commandsOf(c.want)) || !ok {
			t.Errorf("%s: %v, %v, not %s", c.ops, got, ok, c.want)
		}
	}
}

var behindConfig = []impl.Leaf{behindLeaf}

// storeWithBehind puts memory behind each list of a store.
func storeWithBehind(s impl.Store, behind impl.Leaf) impl.Store {
	own := impl.Store{Candidate: configWithBehind(s.Candidate, behind), Running: configWithBehind(s.Running, behind), Left: s.Left}
	for _, l := range s.History {
		own.History = append(own.History, configWithBehind(l, behind))
	}
	own.History = withBehind(own.History, []impl.Leaf{behind})
	return own
}

// wholeStore has also what lies behind the lengths, in memory of its own.
func wholeStore(s impl.Store) impl.Store {
	own := impl.Store{Candidate: wholeConfig(s.Candidate), Running: wholeConfig(s.Running), History: whole(s.History), Left: s.Left}
	for i, l := range own.History {
		own.History[i] = wholeConfig(l)
	}
	return own
}

func handsOutStoreBehind(s impl.Store) bool {
	return handsOutConfigBehind(s.Candidate) || handsOutConfigBehind(s.Running) || slices.ContainsFunc(whole(s.History), handsOutConfigBehind)
}

func storeLists(name string, s impl.Store) []memoryList {
	all := []memoryList{listOf(name+" History", s.History, func(n int) []impl.Leaf { return []impl.Leaf{{Value: markedWord(n)}} }, sameConfig)}
	all = append(all, configLists(name+" Candidate", s.Candidate)...)
	all = append(all, configLists(name+" Running", s.Running)...)
	for i, l := range s.History {
		all = append(all, configLists(fmt.Sprint(name, " History ", i), l)...)
	}
	return all
}

// lookAtStoreMemory hands all in with memory behind it, holds what is answered against what is answered without it, writes into all of it, and looks at the arguments again.
func lookAtStoreMemory(t *testing.T, s impl.Store, o impl.Op, behind impl.Leaf) {
	t.Helper()
	given, givenOp := storeWithBehind(s, behind), o
	givenOp.Path = withBehind(o.Path, behindWord)
	kept, keptPath := wholeStore(given), whole(givenOp.Path)
	unchanged := func(name string) {
		t.Helper()
		if !sameStore(wholeStore(given), kept) || !slices.Equal(whole(givenOp.Path), keptPath) {
			t.Fatalf("%s: %v, %v became %v, %v", name, kept, keptPath, wholeStore(given), whole(givenOp.Path))
		}
	}
	if impl.GoodStore(given) != impl.GoodStore(s) {
		t.Errorf("GoodStore(%v): what lies behind is read", s)
	}
	unchanged("GoodStore")
	then, ok := impl.StepStore(given, givenOp)
	if want, wantOk := impl.StepStore(s, o); !sameStore(then, want) || ok != wantOk || handsOutStoreBehind(then) {
		t.Errorf("StepStore(%v, %v) = %v, %v", s, o, wholeStore(then), ok)
	}
	unchanged("StepStore")
	lookAtLists(t, fmt.Sprint("StepStore of ", o), storeLists("the answer", then))
	unchanged("StepStore")
	confirmed, ok := impl.ConfirmedOf(given)
	if want, wantOk := impl.ConfirmedOf(s); !sameConfig(confirmed, want) || ok != wantOk || handsOutConfigBehind(confirmed) {
		t.Errorf("ConfirmedOf(%v) = %v, %v", s, wholeConfig(confirmed), ok)
	}
	lookAtLists(t, "ConfirmedOf", configLists("the answer", confirmed))
	unchanged("ConfirmedOf")
	pending, ok := impl.PendingOf(given)
	if want, wantOk := impl.PendingOf(s); !sameCommands(pending, want) || ok != wantOk {
		t.Errorf("PendingOf(%v) = %v, %v", s, wholeCommands(pending), ok)
	}
	lookAtLists(t, "PendingOf", commandsLists("the answer", pending))
	unchanged("PendingOf")
	left, ok := impl.TicksLeft(given)
	if want, wantOk := impl.TicksLeft(s); left != want || ok != wantOk {
		t.Errorf("TicksLeft(%v) = %v, %v", s, left, ok)
	}
	unchanged("TicksLeft")
	stopAtFault(t)
}

func TestStoresAreNotWrittenIntoNorShared(t *testing.T) {
	fine := leafOf("zzzzzzzz=1") // would be a leaf as good as others
	ops := append(opsOf("set a=1; set n x=1; delete n; delete a; commit; for 1; for 9; confirm; back 0; back 1; back 2; discard; tick"), undoneOps()...)
	for _, s := range goodStores() {
		for i, o := range ops {
			lookAtStoreMemory(t, s, o, []impl.Leaf{behindLeaf, fine}[i%2])
			lookAtStoreMemory(t, s, o, []impl.Leaf{behindLeaf, fine}[1-i%2])
		}
	}
	i := 0
	for _, s := range badStores() {
		if i++; i%10 == 0 && len(s.History) < 100 && len(s.Candidate) < 100 && len(s.Running) < 100 {
			lookAtStoreMemory(t, s, ops[i/10%len(ops)], behindLeaf)
		}
	}
}

// TestOneListInManyPlacesOfAStore hands in configurations and paths of one memory: in the answer each has its own.
func TestOneListInManyPlacesOfAStore(t *testing.T) {
	words := []string{"a", "b", "c", "d", "e", "f"}
	kept := slices.Clone(words)
	one := []impl.Leaf{{Path: words[:2], Value: "1"}, {Path: words[1:4], Value: "2"}, {Path: words[2:3], Value: "3"}}
	other := one[:2]
	keptOne := wholeConfig(one)
	for _, s := range []impl.Store{
		{Candidate: one, Running: one, History: slices.Repeat([][]impl.Leaf{one}, mostHistory)},
		{Candidate: other, Running: one, History: [][]impl.Leaf{one, one[:1], one}},
		{Candidate: one, Running: one, History: [][]impl.Leaf{other, one, other}, Left: 1},
		{Candidate: one, Running: one, History: slices.Repeat([][]impl.Leaf{other}, mostHistory), Left: 7},
	} {
		if !impl.GoodStore(s) {
			t.Fatal(s)
		}
		for _, o := range append(opsOf("commit; for 1; for 9; confirm; back 0; back 1; back 2; discard; tick"),
			impl.Op{Kind: impl.OpSet, Path: words[3:], Value: "4"}, impl.Op{Kind: impl.OpSet, Path: words[:2], Value: "1"}, impl.Op{Kind: impl.OpDelete, Path: words[1:2]}) {
			then, done := impl.StepStore(s, o)
			if done != (len(storeLists("", then)) > 3) {
				t.Fatal(o, then, done)
			}
			lookAtLists(t, fmt.Sprint("StepStore of ", o), storeLists("the answer", then))
			again, _ := impl.StepStore(s, o)
			next, _ := impl.StepStore(again, oneOp("discard"))
			lookAtLists(t, "one behind the other", slices.Concat(storeLists("again", again), storeLists("next", next)))
		}
		confirmed, _ := impl.ConfirmedOf(s)
		again, _ := impl.ConfirmedOf(s)
		lookAtLists(t, "ConfirmedOf", slices.Concat(configLists("confirmed", confirmed), configLists("again", again)))
		pending, _ := impl.PendingOf(s)
		lookAtLists(t, "PendingOf", commandsLists("pending", pending))
		if !slices.Equal(words, kept) || !sameConfig(wholeConfig(one), keptOne) {
			t.Fatal(words, one)
		}
	}
}

func opsWithBehind(l []impl.Op) []impl.Op {
	var own []impl.Op
	for _, o := range l {
		o.Path = withBehind(o.Path, behindWord)
		own = append(own, o)
	}
	return withBehind(own, impl.Op{Kind: impl.OpSet, Path: []string{behindWord}, Value: behindWord, N: -7})
}

func wholeOps(l []impl.Op) []impl.Op {
	own := whole(l)
	for i, o := range own {
		own[i].Path = whole(o.Path)
	}
	return own
}

func sameOps(a, b []impl.Op) bool {
	return slices.EqualFunc(a, b, func(o, p impl.Op) bool {
		return o.Kind == p.Kind && o.Value == p.Value && o.N == p.N && slices.Equal(o.Path, p.Path)
	})
}

func TestOpsArePlayedWithoutSharing(t *testing.T) {
	r := rand.New(rand.NewSource(163))
	for i := range 250 {
		l := mixedOps(i%(mostOps+2), r)
		if i%3 == 0 {
			for _, o := range undoneOps() {
				l = slices.Insert(l, r.Intn(len(l)+1), o)
			}
		}
		given := opsWithBehind(l)
		kept := wholeOps(given)
		want, wantDid, wantOk := impl.PlayOps(l)
		got, did, ok := impl.PlayOps(given)
		if !sameStore(got, want) || !slices.Equal(did, wantDid) || ok != wantOk || ok != (len(l) <= mostOps) || handsOutStoreBehind(got) {
			t.Errorf("PlayOps(%v) = %v, %v, %v, not %v, %v, %v", l, got, did, ok, want, wantDid, wantOk)
		}
		clear(wantDid[:cap(wantDid)])
		if _, again, _ := impl.PlayOps(l); !slices.Equal(did, again) {
			t.Errorf("PlayOps(%v): %v, then %v", l, did, again)
		}
		lookAtLists(t, "PlayOps", slices.Concat(storeLists("one", got), storeLists("another one", want)))
		if !sameOps(wholeOps(given), kept) {
			t.Errorf("%v became %v", kept, wholeOps(given))
		}
	}
}

func TestWhatIsRefusedChangesNoStore(t *testing.T) {
	for _, s := range goodStores() {
		kept := wholeStore(s)
		for _, o := range undoneOps() {
			refusesOp(t, s, o)
		}
		if !sameStore(wholeStore(s), kept) {
			t.Errorf("%v became %v", kept, wholeStore(s))
		}
	}
}

func TestAnEmptyListAndNoListAreTheSameInStores(t *testing.T) {
	for _, l := range [][]impl.Leaf{nil, {}} {
		for _, newest := range [][]impl.Leaf{nil, {}} {
			s := impl.Store{Candidate: l, Running: l, History: [][]impl.Leaf{newest}}
			lookAtStore(t, s)
			for _, o := range allOps() {
				lookAtStepped(t, s, o)
			}
			s.Left = 1
			refusesStore(t, "Left 1", s)
			lookAtOp(t, impl.Store{Candidate: l, Running: leavesOf("a=1"), History: [][]impl.Leaf{newest}, Left: 4}, oneOp("for 3"), impl.Store{History: [][]impl.Leaf{nil}})
			lookAtOp(t, impl.Store{Candidate: l, Running: leavesOf("a=1"), History: [][]impl.Leaf{newest}, Left: 4}, oneOp("commit"), impl.Store{History: [][]impl.Leaf{nil}})
		}
	}
	for _, o := range opsOf("commit; for 1; back 0; discard") {
		o.Path = []string{}
		lookAtStepped(t, impl.NewStore(), o)
		if _, ok := impl.StepStore(impl.NewStore(), o); !ok {
			t.Error(o)
		}
	}
}

// TestFaultsAreErrors looks for errors that are asked for by kind and taken apart, and for marks that are cleared.
func TestFaultsAreErrors(t *testing.T) {
	parsed, err := parser.ParseFile(token.NewFileSet(), "../impl/l16_commit.go", nil, parser.SkipObjectResolution)
	if err != nil {
		t.Fatal(err)
	}
	called, methods := map[string]int{}, map[string]bool{}
	ast.Inspect(parsed, func(n ast.Node) bool {
		switch x := n.(type) {
		case *ast.FuncDecl:
			if x.Recv != nil {
				methods[x.Name.Name] = true
			}
		case *ast.CallExpr:
			if f, is := x.Fun.(*ast.SelectorExpr); is {
				if of, is := f.X.(*ast.Ident); is && of.Name == "errors" {
					called["errors."+f.Sel.Name]++
				}
			}
			if f, is := x.Fun.(*ast.Ident); is && f.Name == "clear" {
				called["clear"]++
			}
		}
		return true
	})
	for _, name := range []string{"errors.Is", "errors.As", "clear"} {
		if called[name] == 0 {
			t.Error("not called:", name)
		}
	}
	if !methods["Error"] || !methods["Unwrap"] {
		t.Error(methods)
	}
}
