package tests

import (
	"fmt"
	"go/ast"
	"go/parser"
	"go/token"
	"math"
	"math/rand"
	"slices"
	"strings"
	"testing"

	"loop.example/g00344/impl"
)

const (
	leastHold  = 3
	mostHold   = 90
	mostLeft   = 90
	mostQuiet  = 30
	mostUps    = 1000
	mostAsked  = 100
	mostEvents = 100
)

func TestStatesAndEventsAreAsSaid(t *testing.T) {
	states := []int{impl.StIdle, impl.StConnect, impl.StOpenSent, impl.StOpenConfirm, impl.StUp}
	if !slices.Equal(states, []int{0, 1, 2, 3, 4}) {
		t.Error(states)
	}
	events := []int{impl.EvStart, impl.EvStop, impl.EvLink, impl.EvLost, impl.EvOpen, impl.EvBadOpen, impl.EvAlive, impl.EvUpdate, impl.EvNotify, impl.EvTick}
	if !slices.Equal(events, []int{1, 2, 3, 4, 5, 6, 7, 8, 9, 10}) {
		t.Error(events)
	}
}

// The model of the tests goes by a table of words, a line an event, from EvStart on, a word a state, from StIdle on:
// - nothing; I, C to that state without a word; NI a notify, then StIdle; O an open, then StOpenSent; A an alive, then StOpenConfirm (NI where too little is asked for); U StUp; L Left is Hold; T a tick.
const sessionTable = `
	C  -  NI NI NI
	I  I  NI NI NI
	-  O  NI NI NI
	-  -  C  C  C
	-  -  A  NI NI
	-  -  NI NI NI
	-  -  NI U  L
	-  -  NI NI L
	-  -  I  I  I
	-  -  T  T  T
`

var sessionWords = strings.Fields(sessionTable)

func stepByTable(s impl.Session, e impl.Event) (impl.Session, []int) {
	switch sessionWords[(e.Kind-1)*5+s.State] {
	case "I":
		return impl.Session{Hold: s.Hold, Ups: s.Ups}, nil
	case "NI":
		return impl.Session{Hold: s.Hold, Ups: s.Ups}, []int{3}
	case "C":
		return impl.Session{State: 1, Hold: s.Hold, Ups: s.Ups}, nil
	case "O":
		return impl.Session{State: 2, Hold: s.Hold, Left: 90, Ups: s.Ups}, []int{1}
	case "A":
		hold := s.Hold
		if e.N < hold {
			hold = e.N
		}
		if hold < 3 {
			return impl.Session{Hold: s.Hold, Ups: s.Ups}, []int{3}
		}
		return impl.Session{State: 3, Hold: hold, Left: hold, Quiet: (hold - hold%3) / 3, Ups: s.Ups}, []int{4}
	case "U":
		ups := s.Ups
		if ups != 1000 {
			ups++
		}
		return impl.Session{State: 4, Hold: s.Hold, Left: s.Hold, Quiet: s.Quiet, Ups: ups}, nil
	case "L":
		return impl.Session{State: 4, Hold: s.Hold, Left: s.Hold, Quiet: s.Quiet, Ups: s.Ups}, nil
	case "T":
		return tickByTable(s)
	}
	return s, nil
}

func tickByTable(s impl.Session) (impl.Session, []int) {
	if s.Left == 1 {
		return impl.Session{Hold: s.Hold, Ups: s.Ups}, []int{3}
	}
	s.Left--
	if s.State > 2 && s.Quiet == 1 {
		s.Quiet = (s.Hold - s.Hold%3) / 3
		return s, []int{4}
	}
	if s.State > 2 {
		s.Quiet--
	}
	return s, nil
}

func goodSessionByWords(s impl.Session) bool {
	in := func(n, from, to int) bool { return n >= from && n <= to }
	if !in(s.Hold, leastHold, mostHold) || !in(s.Ups, 0, mostUps) {
		return false
	}
	switch s.State {
	case 0, 1:
		return s.Left == 0 && s.Quiet == 0
	case 2:
		return in(s.Left, 1, mostLeft) && s.Quiet == 0
	case 3, 4:
		return in(s.Left, 1, mostLeft) && in(s.Quiet, 1, mostQuiet)
	}
	return false
}

func goodEventByWords(e impl.Event) bool {
	switch e.Kind {
	case 5:
		return e.N >= 0 && e.N <= mostAsked
	case 1, 2, 3, 4, 6, 7, 8, 9, 10:
		return e.N == 0
	}
	return false
}

func playByTable(hold int, l []impl.Event) (impl.Session, []int, bool) {
	if hold < leastHold || hold > mostHold || len(l) > mostEvents {
		return impl.Session{}, nil, false
	}
	s, all := impl.Session{Hold: hold}, []int(nil)
	for _, e := range l {
		if !goodEventByWords(e) {
			return impl.Session{}, nil, false
		}
		next, told := stepByTable(s, e)
		s, all = next, append(all, told...)
	}
	return s, all, true
}

// pairByTable has what was told to each as a text of digits, of which the first one leaves.
func pairByTable(a, b int, steps []int) (impl.Session, impl.Session) {
	holds := [2]int{a, b}
	both := [2]impl.Session{{State: 2, Hold: a, Left: 90}, {State: 2, Hold: b, Left: 90}}
	waiting := [2]string{"1", "1"}
	meet := func(who int, e impl.Event) {
		next, told := stepByTable(both[who], e)
		both[who] = next
		for _, kind := range told {
			waiting[1-who] += fmt.Sprint(kind)
		}
	}
	for _, step := range steps {
		if step == 0 {
			meet(0, impl.Event{Kind: 10})
			meet(1, impl.Event{Kind: 10})
			continue
		}
		who := step - 1
		if waiting[who] == "" {
			continue
		}
		kind := waiting[who][0]
		waiting[who] = waiting[who][1:]
		switch kind {
		case '1':
			meet(who, impl.Event{Kind: 5, N: holds[1-who]})
		case '3':
			meet(who, impl.Event{Kind: 9})
		case '4':
			meet(who, impl.Event{Kind: 7})
		}
	}
	return both[0], both[1]
}

// eventsOf has a word an event; an open has what it asks for behind it, and 3*tick is three of them.
func eventsOf(text string) []impl.Event {
	names := strings.Fields("start stop link lost open badopen alive update notify tick")
	var l []impl.Event
	for _, word := range strings.Fields(text) {
		times := 1
		if many, name, has := strings.Cut(word, "*"); has {
			fmt.Sscan(many, &times)
			word = name
		}
		e := impl.Event{Kind: 1 + slices.Index(names, strings.TrimRight(word, "0123456789"))}
		if e.Kind == 0 {
			panic("no event: " + word)
		}
		if e.Kind == 5 {
			fmt.Sscan(strings.TrimPrefix(word, "open"), &e.N)
		}
		l = append(l, slices.Repeat([]impl.Event{e}, times)...)
	}
	return l
}

func lookAtSession(t *testing.T, s impl.Session, e impl.Event, want impl.Session, wantTold ...int) {
	t.Helper()
	got, told, ok := impl.StepSession(s, e)
	if got != want || !slices.Equal(told, wantTold) || !ok {
		t.Errorf("StepSession(%v, %v) = %v, %v, %v, not %v, %v", s, e, got, told, ok, want, wantTold)
	}
}

func lookAtEvents(t *testing.T, hold int, l []impl.Event, want impl.Session, wantTold ...int) {
	t.Helper()
	got, told, ok := impl.PlayEvents(hold, l)
	if got != want || !slices.Equal(told, wantTold) || !ok {
		t.Errorf("PlayEvents(%d, %v) = %v, %v, %v, not %v, %v", hold, l, got, told, ok, want, wantTold)
	}
}

func lookAtPair(t *testing.T, a, b int, l []int, wantA, wantB impl.Session) {
	t.Helper()
	gotA, gotB, ok := impl.PlayPair(a, b, l)
	if gotA != wantA || gotB != wantB || !ok {
		t.Errorf("PlayPair(%d, %d, %v) = %v, %v, %v, not %v, %v", a, b, l, gotA, gotB, ok, wantA, wantB)
	}
}

func refusesStep(t *testing.T, s impl.Session, e impl.Event) {
	t.Helper()
	if got, told, ok := impl.StepSession(s, e); got != (impl.Session{}) || len(told) != 0 || ok {
		t.Errorf("StepSession(%v, %v) = %v, %v, %v", s, e, got, told, ok)
	}
}

func refusesEvents(t *testing.T, hold int, l []impl.Event) {
	t.Helper()
	if got, told, ok := impl.PlayEvents(hold, l); got != (impl.Session{}) || len(told) != 0 || ok {
		t.Errorf("PlayEvents(%d, %v) = %v, %v, %v", hold, l, got, told, ok)
	}
}

func refusesPair(t *testing.T, a, b int, l []int) {
	t.Helper()
	if gotA, gotB, ok := impl.PlayPair(a, b, l); gotA != (impl.Session{}) || gotB != (impl.Session{}) || ok {
		t.Errorf("PlayPair(%d, %d, %v) = %v, %v, %v", a, b, l, gotA, gotB, ok)
	}
}

// beyondSessions are no states, holds, counts nor kinds, whatever is cut off them.
func beyondSessions() []int {
	return []int{math.MinInt, math.MinInt + 1, -1 << 32, -256, -2, -1, 1001, 1 << 16, 1<<32 + 3, 1<<32 + 4, 1<<32 + 5, math.MaxInt}
}

// goodSessions has each State with each count at its bounds and between.
func goodSessions() []impl.Session {
	var l []impl.Session
	for _, hold := range []int{3, 4, 5, 6, 29, 30, 89, 90} {
		for _, ups := range []int{0, 1, 7, 999, 1000} {
			l = append(l, impl.Session{State: impl.StIdle, Hold: hold, Ups: ups}, impl.Session{State: impl.StConnect, Hold: hold, Ups: ups})
			for _, left := range []int{1, 2, 3, 89, 90} {
				l = append(l, impl.Session{State: impl.StOpenSent, Hold: hold, Left: left, Ups: ups})
				for _, quiet := range []int{1, 2, 29, 30} {
					l = append(l,
						impl.Session{State: impl.StOpenConfirm, Hold: hold, Left: left, Quiet: quiet, Ups: ups},
						impl.Session{State: impl.StUp, Hold: hold, Left: left, Quiet: quiet, Ups: ups})
				}
			}
		}
	}
	return l
}

func plainSession(state int) impl.Session {
	return []impl.Session{
		{State: impl.StIdle, Hold: 9, Ups: 5},
		{State: impl.StConnect, Hold: 9, Ups: 5},
		{State: impl.StOpenSent, Hold: 9, Left: 40, Ups: 5},
		{State: impl.StOpenConfirm, Hold: 9, Left: 7, Quiet: 2, Ups: 5},
		{State: impl.StUp, Hold: 9, Left: 6, Quiet: 2, Ups: 5},
	}[state]
}

// badSessions have one thing each that is not as said.
func badSessions() []impl.Session {
	l := []impl.Session{{}}
	for state := range 5 {
		s := plainSession(state)
		change := func(write func(*impl.Session, int), values ...int) {
			for _, value := range append(values, beyondSessions()...) {
				bad := s
				write(&bad, value)
				l = append(l, bad)
			}
		}
		change(func(s *impl.Session, n int) { s.State = n }, 5, 6, 9, 90)
		change(func(s *impl.Session, n int) { s.Hold = n }, 0, 1, 2, 91, 92, 100)
		change(func(s *impl.Session, n int) { s.Ups = n })
		lefts, quiets := []int{1, 2, 90, 91}, []int{1, 2, 30, 31}
		if state >= impl.StOpenSent {
			lefts = []int{0, 91, 92, 100}
		}
		if state >= impl.StOpenConfirm {
			quiets = []int{0, 31, 32, 90}
		}
		change(func(s *impl.Session, n int) { s.Left = n }, lefts...)
		change(func(s *impl.Session, n int) { s.Quiet = n }, quiets...)
	}
	return l
}

// allEvents has each kind, and opens with all that can be asked for.
func allEvents() []impl.Event {
	var l []impl.Event
	for kind := 1; kind <= 10; kind++ {
		if kind != impl.EvOpen {
			l = append(l, impl.Event{Kind: kind})
		}
	}
	for n := range mostAsked + 1 {
		l = append(l, impl.Event{Kind: impl.EvOpen, N: n})
	}
	return l
}

func badEvents() []impl.Event {
	var l []impl.Event
	for _, kind := range append(beyondSessions(), 0, 11, 12, 255, 256, 257, 261, 1<<32+10) {
		for _, n := range []int{0, 1, 3, 9} {
			l = append(l, impl.Event{Kind: kind, N: n})
		}
	}
	for _, kind := range []int{impl.EvStart, impl.EvStop, impl.EvLink, impl.EvLost, impl.EvBadOpen, impl.EvAlive, impl.EvUpdate, impl.EvNotify, impl.EvTick} {
		for _, n := range append(beyondSessions(), 1, 2, 3, 9, 90, 100, 101) {
			l = append(l, impl.Event{Kind: kind, N: n})
		}
	}
	for _, n := range append(beyondSessions(), 101, 102, 256, 1<<32) {
		l = append(l, impl.Event{Kind: impl.EvOpen, N: n})
	}
	return l
}

func TestNewSessions(t *testing.T) {
	for hold := -10; hold <= 300; hold++ {
		s, ok := impl.NewSession(hold)
		if hold < 3 || hold > 90 {
			if s != (impl.Session{}) || ok {
				t.Errorf("NewSession(%d) = %v, %v", hold, s, ok)
			}
			continue
		}
		if s != (impl.Session{State: impl.StIdle, Hold: hold}) || !ok || !impl.GoodSession(s) {
			t.Errorf("NewSession(%d) = %v, %v", hold, s, ok)
		}
	}
	for _, hold := range beyondSessions() {
		if s, ok := impl.NewSession(hold); s != (impl.Session{}) || ok {
			t.Errorf("NewSession(%d) = %v, %v", hold, s, ok)
		}
	}
}

func TestSessionsAreGoodByTheirWords(t *testing.T) {
	for _, s := range goodSessions() {
		if !impl.GoodSession(s) || !goodSessionByWords(s) {
			t.Errorf("%v is not good", s)
		}
	}
	for _, s := range badSessions() {
		if impl.GoodSession(s) || goodSessionByWords(s) {
			t.Errorf("%v is good", s)
		}
	}
}

func TestSessionsThatAreKnownToBeGoodOrNot(t *testing.T) {
	for _, c := range []struct {
		s    impl.Session
		good bool
	}{
		{impl.Session{}, false},
		{impl.Session{Hold: 2}, false},
		{impl.Session{Hold: 3}, true},
		{impl.Session{Hold: 90}, true},
		{impl.Session{Hold: 91}, false},
		{impl.Session{State: -1, Hold: 9}, false},
		{impl.Session{State: 1, Hold: 9}, true},
		{impl.Session{State: 5, Hold: 9}, false},
		{impl.Session{State: 5, Hold: 9, Left: 9, Quiet: 3}, false},
		{impl.Session{State: -1, Hold: 9, Left: 9, Quiet: 3}, false},
		{impl.Session{State: 0, Hold: 9, Left: 1}, false},
		{impl.Session{State: 0, Hold: 9, Quiet: 1}, false},
		{impl.Session{State: 0, Hold: 9, Ups: 1000}, true},
		{impl.Session{State: 0, Hold: 9, Ups: 1001}, false},
		{impl.Session{State: 1, Hold: 9, Left: 1}, false},
		{impl.Session{State: 1, Hold: 9, Quiet: 1}, false},
		{impl.Session{State: 1, Hold: 9, Ups: 1000}, true},
		{impl.Session{State: 2, Hold: 9}, false},
		{impl.Session{State: 2, Hold: 9, Left: 1}, true},
		{impl.Session{State: 2, Hold: 9, Left: 90}, true},
		{impl.Session{State: 2, Hold: 9, Left: 91}, false},
		{impl.Session{State: 2, Hold: 9, Left: 90, Quiet: 1}, false},
		{impl.Session{State: 3, Hold: 9, Left: 1, Quiet: 1}, true},
		{impl.Session{State: 3, Hold: 9, Left: 9, Quiet: 0}, false},
		{impl.Session{State: 3, Hold: 9, Left: 0, Quiet: 3}, false},
		{impl.Session{State: 3, Hold: 9, Left: 90, Quiet: 30}, true},
		{impl.Session{State: 3, Hold: 9, Left: 90, Quiet: 31}, false},
		{impl.Session{State: 4, Hold: 9, Left: 9, Quiet: 0, Ups: 1}, false},
		{impl.Session{State: 4, Hold: 9, Left: 0, Quiet: 3, Ups: 1}, false},
		{impl.Session{State: 4, Hold: 3, Left: 90, Quiet: 30, Ups: 0}, true},
		{impl.Session{State: 4, Hold: 90, Left: 1, Quiet: 1, Ups: 1000}, true},
		{impl.Session{State: 4, Hold: 90, Left: 1, Quiet: 1, Ups: 1001}, false},
		{impl.Session{State: 4, Hold: 90, Left: 1, Quiet: 1, Ups: -1}, false},
	} {
		if got := impl.GoodSession(c.s); got != c.good {
			t.Errorf("GoodSession(%v) = %v", c.s, got)
		}
	}
}

func TestGoodSessionOfAllNumbersAroundTheBounds(t *testing.T) {
	good := 0
	for state := -1; state <= 5; state++ {
		for _, hold := range []int{-3, 0, 2, 3, 4, 89, 90, 91} {
			for _, left := range []int{-1, 0, 1, 2, 89, 90, 91} {
				for _, quiet := range []int{-1, 0, 1, 2, 29, 30, 31} {
					for _, ups := range []int{-1, 0, 1, 999, 1000, 1001} {
						s := impl.Session{State: state, Hold: hold, Left: left, Quiet: quiet, Ups: ups}
						want := goodSessionByWords(s)
						if got := impl.GoodSession(s); got != want {
							t.Errorf("GoodSession(%v) = %v", s, got)
						}
						if up, ok := impl.IsUp(s); ok != want || up != (want && state == 4) {
							t.Errorf("IsUp(%v) = %v, %v", s, up, ok)
						}
						if want {
							good++
						}
					}
				}
			}
		}
	}
	if good != 4*4*(1+1+4+16+16) {
		t.Error(good)
	}
}

func TestIsUpInEachState(t *testing.T) {
	for state := range 5 {
		if up, ok := impl.IsUp(plainSession(state)); up != (state == impl.StUp) || !ok {
			t.Errorf("IsUp(%v) = %v, %v", plainSession(state), up, ok)
		}
	}
	for _, s := range goodSessions() {
		if up, ok := impl.IsUp(s); up != (s.State == 4) || !ok {
			t.Errorf("IsUp(%v) = %v, %v", s, up, ok)
		}
	}
	for _, s := range badSessions() {
		if up, ok := impl.IsUp(s); up || ok {
			t.Errorf("IsUp(%v) = %v, %v", s, up, ok)
		}
	}
}

// TestEachEventInEachState is written out by hand: Hold 9, Ups 5 throughout.
func TestEachEventInEachState(t *testing.T) {
	idle, connect := plainSession(0), plainSession(1)
	sent := impl.Session{State: impl.StOpenSent, Hold: 9, Left: 90, Ups: 5}
	confirm := impl.Session{State: impl.StOpenConfirm, Hold: 9, Left: 9, Quiet: 3, Ups: 5}
	type answer struct {
		s    impl.Session
		told []int
	}
	same := func(state int) answer { return answer{plainSession(state), nil} }
	end := answer{idle, []int{impl.MsgNotify}}
	for kind, wants := range map[int][5]answer{
		impl.EvStart:   {{connect, nil}, same(1), end, end, end},
		impl.EvStop:    {{idle, nil}, {idle, nil}, end, end, end},
		impl.EvLink:    {same(0), {sent, []int{impl.MsgOpen}}, end, end, end},
		impl.EvLost:    {same(0), same(1), {connect, nil}, {connect, nil}, {connect, nil}},
		impl.EvOpen:    {same(0), same(1), {confirm, []int{impl.MsgAlive}}, end, end},
		impl.EvBadOpen: {same(0), same(1), end, end, end},
		impl.EvAlive: {same(0), same(1), end,
			{impl.Session{State: impl.StUp, Hold: 9, Left: 9, Quiet: 2, Ups: 6}, nil},
			{impl.Session{State: impl.StUp, Hold: 9, Left: 9, Quiet: 2, Ups: 5}, nil}},
		impl.EvUpdate: {same(0), same(1), end, end,
			{impl.Session{State: impl.StUp, Hold: 9, Left: 9, Quiet: 2, Ups: 5}, nil}},
		impl.EvNotify: {same(0), same(1), {idle, nil}, {idle, nil}, {idle, nil}},
		impl.EvTick: {same(0), same(1),
			{impl.Session{State: impl.StOpenSent, Hold: 9, Left: 39, Ups: 5}, nil},
			{impl.Session{State: impl.StOpenConfirm, Hold: 9, Left: 6, Quiet: 1, Ups: 5}, nil},
			{impl.Session{State: impl.StUp, Hold: 9, Left: 5, Quiet: 1, Ups: 5}, nil}},
	} {
		for state, want := range wants {
			e := impl.Event{Kind: kind}
			if kind == impl.EvOpen {
				e.N = 30
			}
			lookAtSession(t, plainSession(state), e, want.s, want.told...)
		}
	}
}

// TestOpensThatAskForLittleOrMuch has all numbers there may be, and those next to them.
func TestOpensThatAskForLittleOrMuch(t *testing.T) {
	sent := func(hold int) impl.Session {
		return impl.Session{State: impl.StOpenSent, Hold: hold, Left: 12, Ups: 4}
	}
	open := func(n int) impl.Event { return impl.Event{Kind: impl.EvOpen, N: n} }
	confirm := func(hold, quiet int) impl.Session {
		return impl.Session{State: impl.StOpenConfirm, Hold: hold, Left: hold, Quiet: quiet, Ups: 4}
	}
	for _, hold := range []int{3, 10, 90} {
		refusesStep(t, sent(hold), open(-1))
		for _, n := range []int{0, 1, 2} {
			lookAtSession(t, sent(hold), open(n), impl.Session{Hold: hold, Ups: 4}, impl.MsgNotify)
		}
		lookAtSession(t, sent(hold), open(3), confirm(3, 1), impl.MsgAlive)
		lookAtSession(t, sent(hold), open(hold), confirm(hold, hold/3), impl.MsgAlive)
		lookAtSession(t, sent(hold), open(hold+1), confirm(hold, hold/3), impl.MsgAlive)
		lookAtSession(t, sent(hold), open(100), confirm(hold, hold/3), impl.MsgAlive)
		refusesStep(t, sent(hold), open(101))
	}
	lookAtSession(t, sent(10), open(9), confirm(9, 3), impl.MsgAlive)
	lookAtSession(t, sent(10), open(8), confirm(8, 2), impl.MsgAlive)
	lookAtSession(t, sent(90), open(5), confirm(5, 1), impl.MsgAlive)
	lookAtSession(t, sent(90), open(89), confirm(89, 29), impl.MsgAlive)
	for _, n := range []int{-1, 101} {
		for state := range 5 {
			refusesStep(t, plainSession(state), open(n))
		}
	}
	for n := range mostAsked + 1 { // what is asked for counts for nothing in other states
		lookAtSession(t, plainSession(0), open(n), plainSession(0))
		lookAtSession(t, plainSession(1), open(n), plainSession(1))
		lookAtSession(t, plainSession(3), open(n), plainSession(0), impl.MsgNotify)
		lookAtSession(t, plainSession(4), open(n), plainSession(0), impl.MsgNotify)
	}
}

func TestAThirdOfEachHold(t *testing.T) {
	third := 0
	for hold := leastHold; hold <= mostHold; hold++ {
		if hold%3 == 0 {
			third++
		}
		sent := impl.Session{State: impl.StOpenSent, Hold: 90, Left: 90}
		confirm := impl.Session{State: impl.StOpenConfirm, Hold: hold, Left: hold, Quiet: third}
		lookAtSession(t, sent, impl.Event{Kind: impl.EvOpen, N: hold}, confirm, impl.MsgAlive)
		for state := impl.StOpenConfirm; state <= impl.StUp; state++ {
			s := impl.Session{State: state, Hold: hold, Left: 50, Quiet: 1, Ups: 3}
			then := impl.Session{State: state, Hold: hold, Left: 49, Quiet: third, Ups: 3}
			lookAtSession(t, s, impl.Event{Kind: impl.EvTick}, then, impl.MsgAlive)
		}
	}
	if third != mostQuiet {
		t.Error(third)
	}
}

func TestLastTicks(t *testing.T) {
	tick := impl.Event{Kind: impl.EvTick}
	idle := impl.Session{Hold: 10, Ups: 2}
	lookAtSession(t, impl.Session{State: 2, Hold: 10, Left: 1, Ups: 2}, tick, idle, impl.MsgNotify)
	lookAtSession(t, impl.Session{State: 2, Hold: 10, Left: 2, Ups: 2}, tick, impl.Session{State: 2, Hold: 10, Left: 1, Ups: 2})
	lookAtSession(t, impl.Session{State: 2, Hold: 10, Left: 90, Ups: 2}, tick, impl.Session{State: 2, Hold: 10, Left: 89, Ups: 2})
	for state := 3; state <= 4; state++ {
		with := func(left, quiet int) impl.Session {
			return impl.Session{State: state, Hold: 10, Left: left, Quiet: quiet, Ups: 2}
		}
		lookAtSession(t, with(1, 2), tick, idle, impl.MsgNotify)
		lookAtSession(t, with(1, 30), tick, idle, impl.MsgNotify)
		lookAtSession(t, with(1, 1), tick, idle, impl.MsgNotify) // both at once: no alive of who gives up
		lookAtSession(t, with(2, 1), tick, with(1, 3), impl.MsgAlive)
		lookAtSession(t, with(2, 2), tick, with(1, 1))
		lookAtSession(t, with(90, 1), tick, with(89, 3), impl.MsgAlive)
		lookAtSession(t, with(90, 30), tick, with(89, 29))
	}
}

func TestUpsAreCountedToAThousand(t *testing.T) {
	alive := impl.Event{Kind: impl.EvAlive}
	for ups, want := range map[int]int{0: 1, 1: 2, 998: 999, 999: 1000, 1000: 1000} {
		s := impl.Session{State: impl.StOpenConfirm, Hold: 8, Left: 1, Quiet: 1, Ups: ups}
		up := impl.Session{State: impl.StUp, Hold: 8, Left: 8, Quiet: 1, Ups: want}
		lookAtSession(t, s, alive, up)
		lookAtSession(t, up, alive, up)
	}
	s, ok := impl.NewSession(30)
	if !ok {
		t.Fatal(s)
	}
	for i := range 1010 {
		for _, e := range eventsOf("start link open9 alive alive update stop") {
			s, _, ok = impl.StepSession(s, e)
			if !ok {
				t.Fatal(i, s)
			}
		}
		if want := (impl.Session{Hold: 9, Ups: min(i+1, 1000)}); s != want {
			t.Fatal(i, s, want)
		}
	}
}

// TestEachStepGoesByTheTable has all good sessions of the bounds, and all events.
func TestEachStepGoesByTheTable(t *testing.T) {
	if len(sessionWords) != 50 {
		t.Fatal(sessionWords)
	}
	events := allEvents()
	for _, s := range goodSessions() {
		for _, e := range events {
			want, wantTold := stepByTable(s, e)
			got, told, ok := impl.StepSession(s, e)
			if got != want || !slices.Equal(told, wantTold) || !ok || !impl.GoodSession(got) {
				t.Fatalf("StepSession(%v, %v) = %v, %v, %v, not %v, %v", s, e, got, told, ok, want, wantTold)
			}
			if got.Hold != s.Hold && (e.Kind != impl.EvOpen || s.State != impl.StOpenSent || got.State != impl.StOpenConfirm) {
				t.Fatalf("StepSession(%v, %v) changes Hold: %v", s, e, got)
			}
		}
	}
}

func TestManySessionsStepByTheTable(t *testing.T) {
	r := rand.New(rand.NewSource(12))
	events := allEvents()
	for range 100000 {
		s := impl.Session{State: r.Intn(5), Hold: 3 + r.Intn(88), Ups: r.Intn(1001)}
		if s.State >= 2 {
			s.Left = 1 + r.Intn(90)
		}
		if s.State >= 3 {
			s.Quiet = 1 + r.Intn(30)
		}
		e := events[r.Intn(len(events))]
		if r.Intn(2) == 0 {
			e = impl.Event{Kind: []int{1, 2, 3, 4, 6, 7, 8, 9, 10}[r.Intn(9)]}
		}
		want, wantTold := stepByTable(s, e)
		lookAtSession(t, s, e, want, wantTold...)
	}
}

func TestStepsThatAreRefused(t *testing.T) {
	for state := range 5 {
		for _, e := range badEvents() {
			if goodEventByWords(e) {
				t.Fatalf("%v is good", e)
			}
			refusesStep(t, plainSession(state), e)
		}
	}
	for _, s := range badSessions() {
		for _, e := range allEvents()[:30] {
			refusesStep(t, s, e)
		}
		for _, e := range badEvents()[:10] {
			refusesStep(t, s, e)
		}
	}
	for state := -1; state <= 5; state++ {
		for kind := -2; kind <= 13; kind++ {
			for n := -2; n <= 103; n++ {
				s, e := impl.Session{State: state, Hold: 9}, impl.Event{Kind: kind, N: n}
				if state >= 2 {
					s.Left = 9
				}
				if state >= 3 {
					s.Quiet = 3
				}
				_, _, ok := impl.StepSession(s, e)
				if want := state >= 0 && state <= 4 && goodEventByWords(e); ok != want {
					t.Errorf("StepSession(%v, %v) tells %v", s, e, ok)
				}
			}
		}
	}
}

func TestEventsPlayed(t *testing.T) {
	up := func(hold, left, quiet, ups int) impl.Session {
		return impl.Session{State: impl.StUp, Hold: hold, Left: left, Quiet: quiet, Ups: ups}
	}
	for name, c := range map[string]struct {
		hold int
		text string
		want impl.Session
		told []int
	}{
		"nothing":                               {9, "", impl.Session{Hold: 9}, nil},
		"a start":                               {9, "start", impl.Session{State: 1, Hold: 9}, nil},
		"a start, twice":                        {9, "start start", impl.Session{State: 1, Hold: 9}, nil},
		"a link without a start":                {9, "link", impl.Session{Hold: 9}, nil},
		"linked":                                {9, "start link", impl.Session{State: 2, Hold: 9, Left: 90}, []int{1}},
		"linked, twice":                         {9, "start link link", impl.Session{Hold: 9}, []int{1, 3}},
		"an open":                               {9, "start link open30", impl.Session{State: 3, Hold: 9, Left: 9, Quiet: 3}, []int{1, 4}},
		"an open that asks for less":            {9, "start link open4", impl.Session{State: 3, Hold: 4, Left: 4, Quiet: 1}, []int{1, 4}},
		"an open that asks for too little":      {9, "start link open2", impl.Session{Hold: 9}, []int{1, 3}},
		"a bad open":                            {9, "start link badopen", impl.Session{Hold: 9}, []int{1, 3}},
		"an alive ahead of the open":            {9, "start link alive open9", impl.Session{Hold: 9}, []int{1, 3}},
		"an update ahead of the alive":          {9, "start link open9 update", impl.Session{Hold: 9}, []int{1, 4, 3}},
		"up":                                    {9, "start link open30 alive", up(9, 9, 3, 1), []int{1, 4}},
		"up late":                               {9, "start link open30 2*tick alive", up(9, 9, 1, 1), []int{1, 4}},
		"up later":                              {9, "start link open30 8*tick alive", up(9, 9, 1, 1), []int{1, 4, 4, 4}},
		"up too late":                           {9, "start link open30 9*tick alive", impl.Session{Hold: 9}, []int{1, 4, 4, 4, 3}},
		"up, and ticks":                         {9, "start link open6 alive 2*tick", up(6, 4, 2, 1), []int{1, 4, 4}},
		"up, and all ticks but one":             {9, "start link open6 alive 5*tick", up(6, 1, 1, 1), []int{1, 4, 4, 4}},
		"up, and silent":                        {9, "start link open6 alive 6*tick", impl.Session{Hold: 6, Ups: 1}, []int{1, 4, 4, 4, 3}},
		"up, and silent, with more behind":      {9, "start link open6 alive 20*tick", impl.Session{Hold: 6, Ups: 1}, []int{1, 4, 4, 4, 3}},
		"kept by updates":                       {9, "start link open6 alive 5*tick update 5*tick alive tick", up(6, 5, 1, 1), []int{1, 4, 4, 4, 4, 4, 4}},
		"an open once up":                       {9, "start link open6 alive open6", impl.Session{Hold: 6, Ups: 1}, []int{1, 4, 3}},
		"a notify once up":                      {9, "start link open6 alive notify", impl.Session{Hold: 6, Ups: 1}, []int{1, 4}},
		"a stop once up":                        {9, "start link open6 alive stop", impl.Session{Hold: 6, Ups: 1}, []int{1, 4, 3}},
		"lost and linked":                       {9, "start link open6 alive lost link", impl.Session{State: 2, Hold: 6, Left: 90, Ups: 1}, []int{1, 4, 1}},
		"up twice, the hold stays agreed":       {9, "start link open6 alive lost link open90 alive", up(6, 6, 2, 2), []int{1, 4, 1, 4}},
		"up twice, over idle":                   {9, "start link open6 alive notify start link open5 alive", up(5, 5, 1, 2), []int{1, 4, 1, 4}},
		"up twice, too little asked in between": {9, "start link open6 alive stop start link open1 start link open7 alive", up(6, 6, 2, 2), []int{1, 4, 3, 1, 3, 1, 4}},
		"nobody answers":                        {9, "start link 90*tick", impl.Session{Hold: 9}, []int{1, 3}},
		"nobody answers, but for a tick":        {9, "start link 89*tick", impl.Session{State: 2, Hold: 9, Left: 1}, []int{1}},
		"the least hold":                        {3, "start link open3 alive 2*tick", up(3, 1, 1, 1), []int{1, 4, 4, 4}},
		"the least hold, the last tick of both": {3, "start link open3 alive 3*tick", impl.Session{Hold: 3, Ups: 1}, []int{1, 4, 4, 4, 3}},
		"the greatest hold":                     {90, "start link open100 alive 30*tick", up(90, 60, 30, 1), []int{1, 4, 4}},
		"a hold that three does not divide":     {11, "start link open100 alive 4*tick", up(11, 7, 2, 1), []int{1, 4, 4}},
		"ticks before anything":                 {9, "9*tick start 9*tick", impl.Session{State: 1, Hold: 9}, nil},
	} {
		t.Run(name, func(t *testing.T) { lookAtEvents(t, c.hold, eventsOf(c.text), c.want, c.told...) })
	}
	lookAtEvents(t, 9, []impl.Event{}, impl.Session{Hold: 9})
}

func TestAHundredEventsAndOneMore(t *testing.T) {
	for _, text := range []string{"100*tick", "100*start", "100*stop", "start link 98*tick", "50*start 50*link", "start link open9 alive 96*update", "start link open9 alive 95*alive stop"} {
		l := eventsOf(text)
		if len(l) != mostEvents {
			t.Fatal(text, len(l))
		}
		want, wantTold, _ := playByTable(9, l)
		lookAtEvents(t, 9, l, want, wantTold...)
		for _, e := range []impl.Event{{Kind: impl.EvTick}, {Kind: impl.EvStop}, {Kind: impl.EvOpen, N: 9}, {}} {
			refusesEvents(t, 9, append(slices.Clone(l), e))
			refusesEvents(t, 9, append([]impl.Event{e}, l...))
		}
	}
	l := slices.Repeat(eventsOf("start link open9 alive stop"), 20)
	lookAtEvents(t, 9, l, impl.Session{Hold: 9, Ups: 20}, slices.Repeat([]int{1, 4, 3}, 20)...)
	refusesEvents(t, 9, append(l, impl.Event{Kind: impl.EvStart}))
	refusesEvents(t, 9, slices.Repeat(l, 1000))
}

func TestEventsThatAreNotAsSaidAmongGoodOnes(t *testing.T) {
	good := eventsOf("start link open9 alive update tick stop start")
	for _, e := range badEvents() {
		refusesEvents(t, 9, []impl.Event{e})
		for at := range len(good) + 1 {
			refusesEvents(t, 9, slices.Insert(slices.Clone(good), at, e))
		}
		refusesEvents(t, 9, append(slices.Repeat(eventsOf("stop"), 99), e))
		refusesEvents(t, 9, append([]impl.Event{e}, slices.Repeat(eventsOf("stop"), 99)...))
	}
	for _, hold := range append(beyondSessions(), 0, 1, 2, 91, 92, 100) {
		for _, l := range [][]impl.Event{nil, good, eventsOf("start"), eventsOf("100*tick"), eventsOf("101*tick"), {{}}} {
			refusesEvents(t, hold, l)
		}
	}
}

// shortEvents are those of which all short rows are played.
func shortEvents() []impl.Event {
	return eventsOf("start stop link lost open0 open3 open7 badopen alive update notify tick")
}

// eachRow hands over all rows of up to so many of these; the row is written into again behind it.
func eachRow[E any](of []E, most int, look func([]E)) {
	row := make([]E, 0, most)
	var longer func()
	longer = func() {
		look(row)
		if len(row) == most {
			return
		}
		for _, e := range of {
			row = append(row, e)
			longer()
			row = row[:len(row)-1]
		}
	}
	longer()
}

// mixedEvents likes what leads on, so that many of them come up.
func mixedEvents(many int, r *rand.Rand) []impl.Event {
	var l []impl.Event
	plan := eventsOf("start link open9 alive")
	at := 0
	for len(l) < many {
		switch n := r.Intn(100); {
		case n < 45:
			e := plan[at%len(plan)]
			if e.Kind == impl.EvOpen {
				e.N = r.Intn(mostAsked + 1)
			}
			l = append(l, e)
			at++
		case n < 75:
			l = append(l, slices.Repeat(eventsOf("tick"), 1+r.Intn(1+r.Intn(12)))...)
		case n < 90:
			l = append(l, impl.Event{Kind: []int{impl.EvAlive, impl.EvUpdate}[r.Intn(2)]})
		default:
			e := impl.Event{Kind: 1 + r.Intn(10)}
			if e.Kind == impl.EvOpen {
				e.N = r.Intn(mostAsked + 1)
			}
			l = append(l, e)
			at = 0
		}
	}
	return l[:many]
}

// hasOpenAndAlive asks for an open and behind it an alive among the events.
func hasOpenAndAlive(l []impl.Event) bool {
	open := slices.IndexFunc(l, func(e impl.Event) bool { return e.Kind == impl.EvOpen })
	return open >= 0 && slices.Contains(l[open+1:], impl.Event{Kind: impl.EvAlive})
}

// lookAtSilence lets ticks come alone: as many as Left says end it, one fewer do not.
func lookAtSilence(t *testing.T, s impl.Session) {
	t.Helper()
	from := s
	for i := range from.Left {
		if s.State != from.State {
			t.Fatalf("%v is given up after %d ticks", from, i)
		}
		next, told, ok := impl.StepSession(s, impl.Event{Kind: impl.EvTick})
		last := i == from.Left-1
		if !ok || slices.Contains(told, impl.MsgNotify) != last || (next.State == impl.StIdle) != last {
			t.Fatalf("%v: tick %d of %v makes %v, %v, %v", from, i+1, s, next, told, ok)
		}
		if last && !slices.Equal(told, []int{impl.MsgNotify}) {
			t.Fatalf("%v: the last tick tells %v", from, told)
		}
		s = next
	}
	if up, ok := impl.IsUp(s); up || !ok {
		t.Fatalf("%v comes to %v, which is up", from, s)
	}
}

// lookAtPromise12 asks the program alone, and tells the State that was come to.
func lookAtPromise12(t *testing.T, hold int, l []impl.Event) int {
	t.Helper()
	s, told, ok := impl.PlayEvents(hold, l)
	if !ok || !impl.GoodSession(s) {
		t.Fatalf("PlayEvents(%d, %v) = %v, %v, %v", hold, l, s, told, ok)
	}
	up, ok := impl.IsUp(s)
	if up != (s.State == impl.StUp) || !ok || up && !hasOpenAndAlive(l) {
		t.Fatalf("PlayEvents(%d, %v) = %v is up: %v, %v", hold, l, s, up, ok)
	}
	if s.State < impl.StOpenSent {
		return s.State
	}
	lookAtSilence(t, s)
	if len(l)+s.Left > mostEvents {
		return s.State
	}
	ticks := slices.Repeat([]impl.Event{{Kind: impl.EvTick}}, s.Left)
	less, lessTold, lessOk := impl.PlayEvents(hold, slices.Concat(l, ticks[1:]))
	if !lessOk || less.State != s.State || less.Left != 1 || slices.Contains(lessTold[len(told):], impl.MsgNotify) {
		t.Fatalf("PlayEvents(%d, %v) = %v comes too early to %v, %v", hold, l, s, less, lessTold)
	}
	end, endTold, endOk := impl.PlayEvents(hold, slices.Concat(l, ticks))
	if !endOk || end.State != impl.StIdle || !slices.Equal(endTold, append(slices.Clone(lessTold), impl.MsgNotify)) {
		t.Fatalf("PlayEvents(%d, %v) = %v comes to %v, %v", hold, l, s, end, endTold)
	}
	return s.State
}

func TestNobodyIsUpButBehindAnOpenAndAnAliveOfAllShortRows(t *testing.T) {
	var states [5]int
	eachRow(shortEvents(), 4, func(l []impl.Event) { states[lookAtPromise12(t, 9, l)]++ })
	eachRow(shortEvents(), 2, func(l []impl.Event) {
		for _, ahead := range []string{"start link", "start link open8", "start link open8 alive", "start link open8 alive lost link", "start link badopen start link open5"} {
			states[lookAtPromise12(t, 5, slices.Concat(eventsOf(ahead), l))]++
		}
	})
	for state, many := range states {
		if many < 2 {
			t.Error(state, many)
		}
	}
	all := 0
	eachRow(shortEvents(), 4, func(l []impl.Event) {
		if s, _, _ := impl.PlayEvents(9, l); s.State == impl.StUp {
			all++
		}
	})
	if all != 2 { // start link open3 alive, start link open7 alive
		t.Error(all)
	}
}

func TestNobodyIsUpButBehindAnOpenAndAnAliveOfManyLongerRows(t *testing.T) {
	r := rand.New(rand.NewSource(121))
	var states [5]int
	for range 20000 {
		states[lookAtPromise12(t, 3+r.Intn(88), mixedEvents(r.Intn(mostEvents+1), r))]++
	}
	for state, many := range states {
		if many < 500 {
			t.Error(state, many)
		}
	}
}

func TestWhoIsSilentTooLongIsGivenUp(t *testing.T) {
	for _, s := range goodSessions() {
		if s.State >= impl.StOpenSent {
			lookAtSilence(t, s)
		}
	}
	for hold := leastHold; hold <= mostHold; hold++ {
		for _, text := range []string{"start link", "start link open90", "start link open90 alive", "start link open90 tick tick alive"} {
			lookAtPromise12(t, hold, eventsOf(text))
		}
	}
}

// TestWhatIsHeardPutsTheEndOff has an alive or an update ahead of the last tick, again and again.
func TestWhatIsHeardPutsTheEndOff(t *testing.T) {
	for _, heard := range []string{"alive", "update"} {
		s, _, ok := impl.PlayEvents(7, eventsOf("start link open7 alive"))
		for range 50 {
			for _, e := range eventsOf("6*tick " + heard) {
				if s, _, ok = impl.StepSession(s, e); !ok || s.State != impl.StUp {
					t.Fatal(heard, s, ok)
				}
			}
		}
		lookAtSilence(t, s)
	}
}

func TestAllShortRowsOfEventsGoByTheTable(t *testing.T) {
	look := func(hold int, l []impl.Event) {
		want, wantTold, _ := playByTable(hold, l)
		lookAtEvents(t, hold, l, want, wantTold...)
	}
	eachRow(shortEvents(), 4, func(l []impl.Event) { look(5, l) })
	for _, ahead := range []string{"start", "start link", "start link open4", "start link open100 alive"} {
		eachRow(shortEvents(), 3, func(l []impl.Event) { look(5, slices.Concat(eventsOf(ahead), l)) })
	}
}

func TestManyRowsOfEventsGoByTheTable(t *testing.T) {
	r := rand.New(rand.NewSource(122))
	long := 0
	for range 20000 {
		hold, l := 3+r.Intn(88), mixedEvents(r.Intn(mostEvents+1), r)
		want, wantTold, _ := playByTable(hold, l)
		lookAtEvents(t, hold, l, want, wantTold...)
		if len(wantTold) > 20 {
			long++
		}
	}
	if long < 100 {
		t.Error(long)
	}
}

// TestPlayedEventsAreSteps puts PlayEvents and StepSession side by side.
func TestPlayedEventsAreSteps(t *testing.T) {
	r := rand.New(rand.NewSource(123))
	for range 2000 {
		hold, l := 3+r.Intn(88), mixedEvents(r.Intn(mostEvents+1), r)
		s, _ := impl.NewSession(hold)
		var all []int
		for i, e := range l {
			lookAtEvents(t, hold, l[:i], s, all...)
			next, told, ok := impl.StepSession(s, e)
			if !ok {
				t.Fatal(s, e)
			}
			s, all = next, append(all, told...)
		}
		lookAtEvents(t, hold, l, s, all...)
	}
}

func TestPairs(t *testing.T) {
	sent := func(hold, left int) impl.Session { return impl.Session{State: 2, Hold: hold, Left: left} }
	confirm := func(hold, left, quiet int) impl.Session {
		return impl.Session{State: 3, Hold: hold, Left: left, Quiet: quiet}
	}
	up := func(hold, left, quiet int) impl.Session {
		return impl.Session{State: 4, Hold: hold, Left: left, Quiet: quiet, Ups: 1}
	}
	for name, c := range map[string]struct {
		a, b         int
		steps        string
		wantA, wantB impl.Session
	}{
		"no step":                                 {9, 30, "", sent(9, 90), sent(30, 90)},
		"a tick":                                  {9, 30, "0", sent(9, 89), sent(30, 89)},
		"the first hears the open":                {9, 30, "1", confirm(9, 9, 3), sent(30, 90)},
		"the second hears the open":               {9, 30, "2", sent(9, 90), confirm(9, 9, 3)},
		"both hear the open, a step a message":    {9, 30, "12", confirm(9, 9, 3), confirm(9, 9, 3)},
		"both hear it, the second one first":      {9, 30, "21", confirm(9, 9, 3), confirm(9, 9, 3)},
		"the open first, then the alive":          {9, 30, "122", confirm(9, 9, 3), up(9, 9, 3)},
		"the open first, then the alive, turned":  {9, 30, "211", up(9, 9, 3), confirm(9, 9, 3)},
		"both up":                                 {9, 30, "1212", up(9, 9, 3), up(9, 9, 3)},
		"both up, the greater hold first":         {30, 9, "1212", up(9, 9, 3), up(9, 9, 3)},
		"both up, turned":                         {9, 30, "2121", up(9, 9, 3), up(9, 9, 3)},
		"both up, one after the other":            {9, 30, "1221", up(9, 9, 3), up(9, 9, 3)},
		"both up, a tick between":                 {9, 30, "120012", up(9, 9, 1), up(9, 9, 1)},
		"nothing was told to the first":           {9, 30, "11", confirm(9, 9, 3), sent(30, 90)},
		"nothing was told, again and again":       {9, 30, "11111111", confirm(9, 9, 3), sent(30, 90)},
		"nothing was told to the second":          {9, 30, "22", sent(9, 90), confirm(9, 9, 3)},
		"nothing more is told once up":            {9, 30, "121212121212", up(9, 9, 3), up(9, 9, 3)},
		"ticks once up":                           {9, 30, "1212000", up(9, 6, 3), up(9, 6, 3)},
		"an alive of the first comes":             {9, 30, "12120002", up(9, 6, 3), up(9, 9, 3)},
		"an alive of the second comes":            {9, 30, "12120001", up(9, 9, 3), up(9, 6, 3)},
		"both alives come":                        {9, 30, "121200012", up(9, 9, 3), up(9, 9, 3)},
		"the opens lie for some ticks":            {9, 30, "0001212", up(9, 9, 3), up(9, 9, 3)},
		"up by an alive that was for the silence": {9, 30, "100022", confirm(9, 6, 3), up(9, 9, 3)},
		"the least of both holds":                 {3, 90, "1212", up(3, 3, 1), up(3, 3, 1)},
		"the greatest holds":                      {90, 90, "1212", up(90, 90, 30), up(90, 90, 30)},
		"a hold that three does not divide":       {11, 10, "1212000", up(10, 7, 3), up(10, 7, 3)},
	} {
		t.Run(name, func(t *testing.T) {
			lookAtPair(t, c.a, c.b, digits(c.steps), c.wantA, c.wantB)
			turned := strings.NewReplacer("1", "2", "2", "1").Replace(c.steps)
			lookAtPair(t, c.b, c.a, digits(turned), c.wantB, c.wantA)
		})
	}
}

// TestOneThatGivesUpAndWhatTheOtherOneHears has the first one silent, and then what it told on its way out.
func TestOneThatGivesUpAndWhatTheOtherOneHears(t *testing.T) {
	up := func(left, quiet int) impl.Session {
		return impl.Session{State: 4, Hold: 3, Left: left, Quiet: quiet, Ups: 1}
	}
	idle := impl.Session{Hold: 3, Ups: 1}
	lookAtPair(t, 3, 90, digits("1212"+"00"), up(1, 1), up(1, 1))
	lookAtPair(t, 3, 90, digits("1212"+"000"), idle, idle) // neither hears the other
	lookAtPair(t, 3, 90, digits("1212"+"002"), up(1, 1), up(3, 1))
	lookAtPair(t, 3, 90, digits("1212"+"0020"), idle, up(2, 1))      // the first one gives up
	lookAtPair(t, 3, 90, digits("1212"+"00202"), idle, up(3, 1))     // its second alive still comes
	lookAtPair(t, 3, 90, digits("1212"+"002022"), idle, idle)        // then its notify
	lookAtPair(t, 3, 90, digits("1212"+"0020222"), idle, idle)       // then nothing
	lookAtPair(t, 3, 90, digits("1212"+"002022"+"111"), idle, idle)  // what comes to one that gave up counts for nothing
	lookAtPair(t, 3, 90, digits("1212"+"002022"+"0000"), idle, idle) // ticks, too
	lookAtPair(t, 3, 90, digits("1212"+"0020"+"1111"), idle, up(2, 1))
	lookAtPair(t, 90, 3, digits("1212"+"0010"+"11"), idle, idle)

	// the first one waits in StOpenConfirm for an alive that does not come, the second one hears an open, an alive and a notify
	confirm := impl.Session{State: 3, Hold: 4, Left: 1, Quiet: 1}
	lookAtPair(t, 4, 90, digits("1"+"000"), confirm, impl.Session{State: 2, Hold: 90, Left: 87})
	gone := impl.Session{Hold: 4}
	lookAtPair(t, 4, 90, digits("1"+"0000"), gone, impl.Session{State: 2, Hold: 90, Left: 86})
	lookAtPair(t, 4, 90, digits("1"+"0000"+"2"), gone, impl.Session{State: 3, Hold: 4, Left: 4, Quiet: 1})
	lookAtPair(t, 4, 90, digits("1"+"0000"+"22"), gone, impl.Session{State: 4, Hold: 4, Left: 4, Quiet: 1, Ups: 1})
	lookAtPair(t, 4, 90, digits("1"+"0000"+"22222"), gone, impl.Session{State: 4, Hold: 4, Left: 4, Quiet: 1, Ups: 1})
	lookAtPair(t, 4, 90, digits("1"+"0000"+"222222"), gone, impl.Session{Hold: 4, Ups: 1})
	lookAtPair(t, 4, 90, digits("1"+"0000"+"1"+"222222"), gone, impl.Session{Hold: 4, Ups: 1})

	// nobody hears anything for 90 ticks, and a notify comes behind the open
	lookAtPair(t, 9, 9, make([]int, 89), impl.Session{State: 2, Hold: 9, Left: 1}, impl.Session{State: 2, Hold: 9, Left: 1})
	lookAtPair(t, 9, 9, make([]int, 90), impl.Session{Hold: 9}, impl.Session{Hold: 9})
	late := append(make([]int, 89), 2, 0)
	lookAtPair(t, 9, 9, late, impl.Session{Hold: 9}, impl.Session{State: 3, Hold: 9, Left: 8, Quiet: 2})
	lookAtPair(t, 9, 9, append(slices.Clone(late), 2), impl.Session{Hold: 9}, impl.Session{Hold: 9})
	lookAtPair(t, 9, 9, append(slices.Clone(late), 1, 1), impl.Session{Hold: 9}, impl.Session{State: 3, Hold: 9, Left: 8, Quiet: 2})
}

func TestBothAreUpWithTheLesserHold(t *testing.T) {
	for a := leastHold; a <= mostHold; a++ {
		for b := leastHold; b <= mostHold; b++ {
			hold := min(a, b)
			want := impl.Session{State: impl.StUp, Hold: hold, Left: hold, Quiet: hold / 3, Ups: 1}
			for _, steps := range []string{"1212", "1221", "2112", "2121"} {
				lookAtPair(t, a, b, digits(steps), want, want)
			}
		}
	}
}

func TestAHundredStepsAndOneMore(t *testing.T) {
	for _, kept := range [][]int{{0}, {1}, {2}, {1, 2, 1, 2, 0}, {0, 1, 2, 0}, {0, 0, 1, 2}} {
		for _, holds := range [][2]int{{3, 3}, {9, 30}, {90, 8}} {
			l := slices.Repeat(kept, mostEvents/len(kept))
			if len(l) != mostEvents {
				t.Fatal(kept)
			}
			wantA, wantB := pairByTable(holds[0], holds[1], l)
			lookAtPair(t, holds[0], holds[1], l, wantA, wantB)
			for step := range 3 {
				refusesPair(t, holds[0], holds[1], append(slices.Clone(l), step))
			}
			refusesPair(t, holds[0], holds[1], slices.Repeat(l, 1000))
		}
	}
}

func TestPairsThatAreRefused(t *testing.T) {
	good := digits("12120012")
	for _, step := range append(beyondSessions(), 3, 4, 5, 9, 255, 256, 257, 1<<32, 1<<32+1) {
		refusesPair(t, 9, 9, []int{step})
		for at := range len(good) + 1 {
			refusesPair(t, 9, 9, slices.Insert(slices.Clone(good), at, step))
		}
		refusesPair(t, 9, 9, append(make([]int, 99), step))
		refusesPair(t, 9, 9, append([]int{step}, make([]int, 99)...))
	}
	for _, bad := range append(beyondSessions(), 0, 1, 2, 91, 92, 100) {
		for _, l := range [][]int{nil, {}, good, make([]int, 100), make([]int, 101), {3}} {
			refusesPair(t, bad, 9, l)
			refusesPair(t, 9, bad, l)
			refusesPair(t, bad, bad, l)
			refusesPair(t, 3, bad, l)
			refusesPair(t, bad, 90, l)
		}
	}
}

func TestAllShortRowsOfStepsGoByTheTable(t *testing.T) {
	for _, holds := range [][2]int{{3, 4}, {5, 3}, {9, 30}} {
		eachRow([]int{0, 1, 2}, 8, func(l []int) {
			wantA, wantB := pairByTable(holds[0], holds[1], l)
			lookAtPair(t, holds[0], holds[1], l, wantA, wantB)
		})
	}
}

func TestManyRowsOfStepsGoByTheTable(t *testing.T) {
	r := rand.New(rand.NewSource(124))
	states := map[[2]int]int{}
	for range 40000 {
		a, b := 3+r.Intn(1+r.Intn(88)), 3+r.Intn(1+r.Intn(88))
		weights := [3]int{1 + r.Intn(8), 1 + r.Intn(8), 1 + r.Intn(8)}
		l := make([]int, r.Intn(mostEvents+1))
		for i := range l {
			n := r.Intn(weights[0] + weights[1] + weights[2])
			switch {
			case n >= weights[0]+weights[1]:
				l[i] = 2
			case n >= weights[0]:
				l[i] = 1
			}
		}
		wantA, wantB := pairByTable(a, b, l)
		lookAtPair(t, a, b, l, wantA, wantB)
		if !goodSessionByWords(wantA) || !goodSessionByWords(wantB) {
			t.Fatal(wantA, wantB)
		}
		states[[2]int{wantA.State, wantB.State}]++
	}
	for _, both := range [][2]int{{0, 0}, {0, 4}, {4, 0}, {4, 4}, {2, 2}, {3, 4}, {4, 3}, {3, 3}, {2, 3}, {3, 2}} {
		if states[both] < 50 {
			t.Error("not met:", both, states)
		}
	}
}

var behindEvent = impl.Event{Kind: -7, N: -77}

// lookAtSessionMemory hands events in with memory behind them, and writes into all that is told.
func lookAtSessionMemory(t *testing.T, hold int, l []impl.Event, behind impl.Event) {
	t.Helper()
	want, wantTold, wantOk := impl.PlayEvents(hold, slices.Clone(l))
	given := withBehind(l, behind)
	kept := whole(given)
	for range 2 {
		got, told, ok := impl.PlayEvents(hold, given)
		if got != want || !slices.Equal(told, wantTold) || ok != wantOk {
			t.Errorf("PlayEvents(%d, %v) = %v, %v, %v, not %v, %v, %v", hold, l, got, told, ok, want, wantTold, wantOk)
		}
		if !slices.Equal(whole(given), kept) {
			t.Errorf("%v became %v", kept, whole(given))
		}
		overwrite(told, -9)
		if !slices.Equal(whole(given), kept) {
			t.Errorf("what is told shares memory with %v: %v", kept, whole(given))
		}
	}
}

func TestEventsAreNotWrittenIntoNorShared(t *testing.T) {
	r := rand.New(rand.NewSource(125))
	for _, behind := range []impl.Event{behindEvent, {Kind: impl.EvTick}, {Kind: impl.EvStart}, {Kind: impl.EvStop}} {
		for _, l := range [][]impl.Event{nil, {}, eventsOf("start"), eventsOf("start link"), eventsOf("start link open9 alive"), eventsOf("100*tick"), eventsOf("101*tick"), badEvents()[:1], badEvents()} {
			for _, hold := range []int{2, 3, 9, 90, 91} {
				lookAtSessionMemory(t, hold, l, behind)
			}
		}
		for range 300 {
			lookAtSessionMemory(t, 3+r.Intn(88), mixedEvents(r.Intn(mostEvents+1), r), behind)
		}
	}
}

func TestStepsOfPairsAreNotWrittenInto(t *testing.T) {
	for _, behind := range []int{behindNumber, 0, 1, 2, 3} {
		for _, l := range [][]int{nil, {}, {0}, {1}, {3}, digits("1212"), digits("12120002"), digits("121230"), make([]int, 100), make([]int, 101), slices.Repeat([]int{1, 2}, 50)} {
			for _, holds := range [][2]int{{9, 30}, {3, 90}, {2, 9}, {9, 91}} {
				given := withBehind(l, behind)
				kept := whole(given)
				wantA, wantB, wantOk := impl.PlayPair(holds[0], holds[1], slices.Clone(l))
				a, b, ok := impl.PlayPair(holds[0], holds[1], given)
				if a != wantA || b != wantB || ok != wantOk {
					t.Errorf("PlayPair(%v, %v) = %v, %v, %v, not %v, %v, %v", holds, l, a, b, ok, wantA, wantB, wantOk)
				}
				if !slices.Equal(whole(given), kept) {
					t.Errorf("%v became %v", kept, whole(given))
				}
			}
		}
	}
}

// TestWhatLiesBehindEventsIsNotReadAlsoWhereItIsGood cuts rows short whose rest would be as good.
func TestWhatLiesBehindEventsIsNotReadAlsoWhereItIsGood(t *testing.T) {
	all := eventsOf("start link open9 alive stop")
	lookAtEvents(t, 9, all[:4], impl.Session{State: 4, Hold: 9, Left: 9, Quiet: 3, Ups: 1}, 1, 4)
	lookAtEvents(t, 9, all[:0], impl.Session{Hold: 9})
	ticks := eventsOf("101*tick")
	lookAtEvents(t, 9, ticks[:100], impl.Session{Hold: 9})
	steps := make([]int, 101)
	lookAtPair(t, 9, 9, steps[:100], impl.Session{Hold: 9}, impl.Session{Hold: 9})
	lookAtPair(t, 9, 9, digits("12123")[:4], impl.Session{State: 4, Hold: 9, Left: 9, Quiet: 3, Ups: 1}, impl.Session{State: 4, Hold: 9, Left: 9, Quiet: 3, Ups: 1})
}

func TestTwoAnswersOfSessionsShareNoMemory(t *testing.T) {
	for state := range 5 {
		for _, e := range append(allEvents(), badEvents()...) {
			_, first, _ := impl.StepSession(plainSession(state), e)
			_, second, _ := impl.StepSession(plainSession(state), e)
			kept := slices.Clone(second)
			overwrite(first, -9)
			_, third, _ := impl.StepSession(plainSession(state), e)
			if !slices.Equal(second, kept) || !slices.Equal(third, kept) {
				t.Errorf("StepSession(%v, %v): %v became %v, %v", plainSession(state), e, kept, second, third)
			}
		}
	}
	l := eventsOf("start link open9 alive 3*tick stop")
	_, first, _ := impl.PlayEvents(9, l)
	_, second, _ := impl.PlayEvents(9, l)
	overwrite(first, -9)
	if !slices.Equal(second, []int{1, 4, 4, 3}) {
		t.Error(second)
	}
	lookAtEvents(t, 9, l, impl.Session{Hold: 9, Ups: 1}, 1, 4, 4, 3)
}

// TestSessionsPlayedAtTheSameTime: nothing is kept from call to call, so nobody's count is another one's.
func TestSessionsPlayedAtTheSameTime(t *testing.T) {
	steps := slices.Repeat(digits("1212000"), 14)
	wantA, wantB := pairByTable(9, 30, steps)
	l := slices.Repeat(eventsOf("start link open9 alive 3*tick stop"), 10)
	want, wantTold, _ := playByTable(9, l)
	done := make(chan bool)
	for range 8 {
		go func() {
			all := true
			for range 200 {
				a, b, ok := impl.PlayPair(9, 30, steps)
				s, told, played := impl.PlayEvents(9, l)
				all = all && ok && a == wantA && b == wantB && played && s == want && slices.Equal(told, wantTold)
			}
			done <- all
		}()
	}
	for range 8 {
		if !<-done {
			t.Error("played otherwise by one of many")
		}
	}
}

// TestPlayPairAloneReachesTheAtomics: the sessions themselves know none.
func TestPlayPairAloneReachesTheAtomics(t *testing.T) {
	users := usersOf(t)
	for name, may := range map[string][]string{
		"atomic":   nil,
		"side":     {"PlayPair"},
		"come":     {"hears"},
		"hears":    {"PlayPair"},
		"PlayPair": nil,
	} {
		got := slices.Sorted(slices.Values(users[name]))
		if !slices.Equal(got, may) {
			t.Errorf("%s stands in %v, not in %v", name, got, may)
		}
	}
}

// TestStatesAreMethodValues looks for a table with a method of the session for each State.
func TestStatesAreMethodValues(t *testing.T) {
	parsed, err := parser.ParseFile(token.NewFileSet(), "../impl/l12_session.go", nil, parser.SkipObjectResolution)
	if err != nil {
		t.Fatal(err)
	}
	found := map[string]string{}
	ast.Inspect(parsed, func(n ast.Node) bool {
		pair, is := n.(*ast.KeyValueExpr)
		if !is {
			return true
		}
		key, isName := pair.Key.(*ast.Ident)
		value, isMethod := pair.Value.(*ast.SelectorExpr)
		if isName && isMethod && strings.HasPrefix(key.Name, "St") {
			found[key.Name] = value.Sel.Name
		}
		return true
	})
	for _, state := range []string{"StIdle", "StConnect", "StOpenSent", "StOpenConfirm", "StUp"} {
		if found[state] == "" {
			t.Errorf("no method for %s: %v", state, found)
		}
	}
}
