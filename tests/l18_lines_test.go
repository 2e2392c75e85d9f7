package tests

import (
	"fmt"
	"go/ast"
	"go/parser"
	"go/token"
	"math/rand"
	"regexp"
	"slices"
	"strconv"
	"strings"
	"sync"
	"testing"

	"loop.example/g00344/impl"
)

const (
	mostScript = 2500
	mostLines  = 80
)

func TestLimitsOfScriptsAreAsSaid(t *testing.T) {
	if impl.MaxScript != mostScript || impl.MaxLines != mostLines {
		t.Error(impl.MaxScript, impl.MaxLines)
	}
}

// lineForms has the patterns of all lines that are answered anything but what; W stands for a word, which may be empty, N for a number.
var lineForms = formsOf(map[string]string{
	"set":     "((?: W){1,5}) (W)",
	"delete":  "((?: W){1,5})",
	"commit":  "",
	"for":     " (N)",
	"confirm": "",
	"back":    " (N)",
	"tick":    "",
	"show":    "",
	"hear":    " (N) (W)((?: N){0,10})",
	"gone":    " (N) (W)",
	"lost":    " (N)",
	"best":    " (W)",
	"cut":     " (N) (N)",
})

func formsOf(behind map[string]string) map[string]*regexp.Regexp {
	forms := map[string]*regexp.Regexp{}
	for first, pattern := range behind {
		pattern = strings.ReplaceAll(pattern, "W", "[^ ]*")
		pattern = strings.ReplaceAll(pattern, "N", "(?:0|[1-9][0-9]{0,8})")
		forms[first] = regexp.MustCompile("^" + first + pattern + "$")
	}
	return forms
}

// askedLine is what a line asks for; its form is the first word, or empty, where it is of none.
type askedLine struct {
	form   string
	op     impl.Op
	prefix string
	n      []int
}

func numbersIn(texts ...string) []int {
	var l []int
	for _, text := range strings.Fields(strings.Join(texts, " ")) {
		n, err := strconv.Atoi(text)
		if err != nil {
			panic(err)
		}
		l = append(l, n)
	}
	return l
}

// askedBy has in n what numbers the line has, in order.
func askedBy(line string) askedLine {
	for form, pattern := range lineForms {
		found := pattern.FindStringSubmatch(line)
		if found == nil {
			continue
		}
		a := askedLine{form: form}
		switch form {
		case "set":
			a.op = impl.Op{Kind: 1, Path: wayOf(found[1])[1:], Value: found[2]}
		case "delete":
			a.op = impl.Op{Kind: 2, Path: wayOf(found[1])[1:]}
		case "for", "back":
			a.n = numbersIn(found[1])
			a.op = impl.Op{Kind: map[string]int{"for": 4, "back": 6}[form], N: a.n[0]}
		case "commit", "confirm", "tick":
			a.op = impl.Op{Kind: map[string]int{"commit": 3, "confirm": 5, "tick": 8}[form]}
		case "hear":
			a.prefix, a.n = found[2], numbersIn(found[1], found[3])
		case "gone":
			a.prefix, a.n = found[2], numbersIn(found[1])
		case "lost", "cut":
			a.n = numbersIn(found[1:]...)
		case "best":
			a.prefix = found[1]
		}
		return a
	}
	return askedLine{}
}

// isUpdate tells whether something is heard; the update is that of a line that hears or lets go of a prefix.
func (a askedLine) isUpdate() bool {
	_, is := readByLibrary(a.prefix)
	return is && (a.form == "hear" || a.form == "gone")
}

func (a askedLine) update() impl.Update {
	p, _ := readByLibrary(a.prefix)
	if a.form == "gone" {
		return impl.Update{Gone: []impl.Prefix{p}}
	}
	return impl.Update{Attrs: impl.Attrs{Pref: 100, Path: a.n[1:]}, Come: []impl.Prefix{p}}
}

func prefixTextByWords(p impl.Prefix) string {
	return fmt.Sprintf("%d.%d.%d.%d/%d", p.Addr>>24, p.Addr>>16&255, p.Addr>>8&255, p.Addr&255, p.Len)
}

// speakerModel answers by the models of commits and of ribs.
type speakerModel struct {
	store *storeModel
	rib   impl.Rib
}

func newSpeakerModel() *speakerModel {
	return &speakerModel{store: newStoreModel(), rib: impl.Rib{Own: ownAsn}}
}

func (m *speakerModel) show() string {
	s := m.store.store()
	text := fmt.Sprint("left ", s.Left)
	for _, c := range diffByModel(s.Running, s.Candidate) {
		if c.Set {
			text += " set." + strings.Join(c.Path, ".") + "." + c.Value
		} else {
			text += " delete." + strings.Join(c.Path, ".")
		}
	}
	return text
}

func withPrefixes(text string, l []impl.Prefix) string {
	for _, p := range l {
		text += " " + prefixTextByWords(p)
	}
	return text
}

func (m *speakerModel) hear(a askedLine) string {
	bad := func(asn int) bool { return asn < 1 || asn > 65535 }
	if !a.isUpdate() || a.n[0] > 5 || slices.ContainsFunc(a.n[1:], bad) {
		return "no"
	}
	then, told, ok := takeByWords(m.rib, a.n[0], a.update())
	if !ok {
		return "no"
	}
	m.rib = then
	return withPrefixes("new", told)
}

func (m *speakerModel) lose(peer int) string {
	if peer > 5 {
		return "no"
	}
	then, told := dropByWords(m.rib, peer)
	m.rib = then
	return withPrefixes("new", told)
}

func (m *speakerModel) best(text string) string {
	p, is := readByLibrary(text)
	if !is {
		return "no"
	}
	o, is := modelOf(m.rib).best(ownAsn, p)
	if !is {
		return "none"
	}
	answer := fmt.Sprint("by ", o.Peer)
	for _, asn := range o.Attrs.Path {
		answer += fmt.Sprint(" ", asn)
	}
	return answer
}

func (m *speakerModel) answer(line string) string {
	a := askedBy(line)
	switch a.form {
	case "":
		return "what"
	case "show":
		return m.show()
	case "hear", "gone":
		return m.hear(a)
	case "lost":
		return m.lose(a.n[0])
	case "best":
		return m.best(a.prefix)
	case "cut":
		if a.n[0] > a.n[1] {
			return "no"
		}
		return withPrefixes("is", setOfSpans([]span{{a.n[0], a.n[1]}}))
	}
	if !m.store.do(a.op) {
		return "no"
	}
	return "ok"
}

// scriptLines tells the lines of a script, without their ends; false, where it is none.
func scriptLines(text string) ([]string, bool) {
	var lines []string
	for rest := text; rest != ""; {
		line, behind, ended := strings.Cut(rest, "\n")
		if !ended {
			return nil, false
		}
		lines = append(lines, line)
		rest = behind
	}
	if len(text) > mostScript || len(lines) > mostLines {
		return nil, false
	}
	return lines, true
}

func refusesScript(t *testing.T, text string) {
	t.Helper()
	if told := impl.RunSpeaker(text); told != "" {
		t.Errorf("RunSpeaker(%.200q), %d bytes: %.200q", text, len(text), told)
	}
	if s, r, ok := impl.SpeakerOf(text); !isZeroStore(s) || !isZeroRib(r) || ok {
		t.Errorf("SpeakerOf(%.200q), %d bytes: %s, %s, %v", text, len(text), brief(s), brief(r), ok)
	}
}

// lookAtScript holds both functions against the model, and tells what is answered.
func lookAtScript(t *testing.T, text string) []string {
	t.Helper()
	lines, is := scriptLines(text)
	if !is {
		refusesScript(t, text)
		return nil
	}
	m := newSpeakerModel()
	var answers []string
	want := ""
	for _, line := range lines {
		answers = append(answers, m.answer(line))
		want += answers[len(answers)-1] + "\n"
	}
	if told := impl.RunSpeaker(text); told != want {
		t.Errorf("RunSpeaker(%s) = %s, not %s", quoted(text), quoted(told), quoted(want))
	}
	s, r, ok := impl.SpeakerOf(text)
	if !sameStore(s, m.store.store()) || !sameRib(r, m.rib) || !ok {
		t.Errorf("SpeakerOf(%s) = %s, %s, %v, not %s, %s", quoted(text), brief(s), brief(r), ok, brief(m.store.store()), brief(m.rib))
	}
	if ok && (!impl.GoodStore(s) || !impl.GoodRib(r)) {
		t.Errorf("SpeakerOf(%s) = %s, %s: not good", quoted(text), brief(s), brief(r))
	}
	return answers
}

func scriptOf(lines ...string) string {
	text := ""
	for _, line := range lines {
		text += line + "\n"
	}
	return text
}

// lookAtRows is told lines with their answers, an arrow between, from an empty script on.
func lookAtRows(t *testing.T, rows string) {
	t.Helper()
	var lines, want []string
	for _, row := range strings.Split(strings.Trim(rows, "\n"), "\n") {
		line, answer, is := strings.Cut(row, " => ")
		if !is {
			t.Fatalf("no row: %q", row)
		}
		lines, want = append(lines, line), append(want, answer)
	}
	text := scriptOf(lines...)
	told := strings.Split(impl.RunSpeaker(text), "\n")
	if len(told) != len(want)+1 || told[len(want)] != "" {
		t.Fatalf("RunSpeaker(%s) = %s, not %s", quoted(text), quoted(told), quoted(want))
	}
	for i, line := range lines {
		if told[i] != want[i] {
			t.Errorf("line %d, %q: %q, not %q", i, line, told[i], want[i])
		}
	}
	lookAtPromise18(t, text)
}

// behindLine does what a line asks for by the functions of the chapters that it calls.
func behindLine(s impl.Store, r impl.Rib, line string) (impl.Store, impl.Rib) {
	a := askedBy(line)
	if a.op.Kind != 0 {
		if then, done := impl.StepStore(s, a.op); done {
			s = then
		}
	}
	if a.isUpdate() {
		if then, _, done := impl.TakeUpdate(r, a.n[0], a.update()); done {
			r = then
		}
	}
	if a.form == "lost" {
		if then, _, done := impl.DropPeer(r, a.n[0]); done {
			r = then
		}
	}
	return s, r
}

// lookAtPromise18 cuts a script behind each of its lines; the lines that follow change no answer ahead of them, and what they ask for leads on from what was there.
func lookAtPromise18(t *testing.T, text string) []string {
	t.Helper()
	answers := lookAtScript(t, text)
	lines, is := scriptLines(text)
	if !is {
		return nil
	}
	whole := impl.RunSpeaker(text)
	lastStore, lastRib, _ := impl.SpeakerOf(text)
	for cut := range len(lines) + 1 {
		first := scriptOf(lines[:cut]...)
		told := impl.RunSpeaker(first)
		if !strings.HasPrefix(whole, told) || strings.Count(told, "\n") != cut {
			t.Fatalf("RunSpeaker of %d lines of %s: %s, of all %s", cut, quoted(text), quoted(told), quoted(whole))
		}
		s, r, ok := impl.SpeakerOf(first)
		if !ok {
			t.Fatalf("SpeakerOf(%s): false", quoted(first))
		}
		for _, line := range lines[cut:] {
			s, r = behindLine(s, r, line)
		}
		if !sameStore(s, lastStore) || !sameRib(r, lastRib) {
			t.Fatalf("SpeakerOf of %d lines of %s, and those that follow: %s, %s, not %s, %s", cut, quoted(text), brief(s), brief(r), brief(lastStore), brief(lastRib))
		}
	}
	stopAtFault(t)
	return answers
}

func TestTheTextWithoutBytes(t *testing.T) {
	if told := impl.RunSpeaker(""); told != "" {
		t.Errorf("%q", told)
	}
	r, _ := impl.NewRib(7)
	if s, got, ok := impl.SpeakerOf(""); !sameStore(s, impl.NewStore()) || !sameRib(got, r) || !ok {
		t.Error(s, got, ok)
	}
	lookAtPromise18(t, "")
}

func TestScriptsOfMaxScriptBytesAndOneMore(t *testing.T) {
	for _, beginning := range []string{"", "\n", "set a 1\nhear 1 10.0.0.0/8 3\n", "x", " ", strings.Repeat("set a 1\n", mostLines-1)} {
		for _, b := range []string{"a", " ", "\x00", "\xff", "1"} {
			for bytes := mostScript - 3; bytes <= mostScript+3; bytes++ {
				text := beginning + strings.Repeat(b, bytes-1-len(beginning)) + "\n"
				answers := lookAtPromise18(t, text)
				if is := len(answers) > 0; is != (bytes <= mostScript) || is && answers[len(answers)-1] != "what" {
					t.Fatalf("%d bytes: %s", bytes, quoted(answers))
				}
			}
		}
	}
	lines := strings.Repeat("set aaaaaaaa bbbbbbbb cccccccc\n", mostLines)
	if len(lines) != mostScript-20 {
		t.Fatal(len(lines))
	}
	for more := range 24 {
		text := strings.Replace(lines, "set aaaaaaaa bbbbbbbb cccccccc", "hear 1 10.0.0.0/8 "+strings.Repeat("1", more), 1)
		lookAtScript(t, text)
	}
	for _, bytes := range []int{mostScript + 1, 2 * mostScript, 1 << 16, 1 << 24} {
		refusesScript(t, strings.Repeat("a", bytes-1)+"\n")
		refusesScript(t, strings.Repeat("\n", bytes))
		refusesScript(t, strings.Repeat(" ", bytes))
	}
}

func TestScriptsOfMaxLinesAndOneMore(t *testing.T) {
	for _, line := range []string{"", " ", "tick", "commit", "set a 1", "show", "hear 1 10.0.0.0/8", "fly", "cut 0 1"} {
		for _, many := range []int{0, 1, 2, mostLines - 1, mostLines, mostLines + 1, mostLines + 2, 2 * mostLines, 256, 256 + mostLines} {
			text := strings.Repeat(line+"\n", many)
			if len(text) > mostScript {
				continue
			}
			answers := lookAtScript(t, text)
			if many > mostLines {
				refusesScript(t, text)
			} else if len(answers) != many {
				t.Fatal(line, many, answers)
			}
			if many <= mostLines {
				refusesScript(t, text+"x")
			}
		}
	}
	lookAtPromise18(t, strings.Repeat("set a 1\ncommit\nset a 2\ncommit\n", mostLines/4))
	refusesScript(t, strings.Repeat("set a 1\ncommit\nset a 2\ncommit\n", mostLines/4)+"\n")
	refusesScript(t, "\n"+strings.Repeat("set a 1\ncommit\nset a 2\ncommit\n", mostLines/4))
}

// shortScript has a line of each form.
const shortScript = "set a b 1\nshow\nfor 2\ntick\nconfirm\nback 1\ndelete version\ncommit\nhear 1 10.0.0.0/8 3 4\nbest 10.0.0.0/8\ngone 1 10.0.0.0/8\nlost 1\ncut 5 9\n\nfly\n"

func TestEachLineHasItsEnd(t *testing.T) {
	for _, text := range []string{shortScript, "\n\n", "\ntick\n", "a\r\nb\r\n"} {
		for cut := range len(text) + 1 {
			if answers := lookAtScript(t, text[:cut]); cut > 0 && text[cut-1] != '\n' {
				refusesScript(t, text[:cut])
			} else if len(answers) != strings.Count(text[:cut], "\n") {
				t.Errorf("%q: %q", text[:cut], answers)
			}
		}
	}
	for _, text := range []string{"a", " ", "tick", "set a 1", "show", "\x00", "\r", "tick\r", "\ntick", "tick\n ", "\n\x00", "tick\n\ntick", "set a 1\nshow"} {
		refusesScript(t, text)
	}
}

func TestLinesThatAreKnown(t *testing.T) {
	lookAtRows(t, `
set a b 1 => ok
show => left 0 set.a.b.1
for 2 => ok
tick => ok
show => left 1
tick => ok
show => left 0 set.a.b.1
hear 1 10.0.0.0/8 3 4 => new 10.0.0.0/8
hear 2 10.0.0.0/8 5 => new 10.0.0.0/8
best 10.0.0.0/8 => by 2 5
lost 2 => new 10.0.0.0/8
best 10.0.0.0/8 => by 1 3 4
gone 1 10.0.0.0/8 => new 10.0.0.0/8
best 10.0.0.0/8 => none
cut 5 9 => is 0.0.0.5/32 0.0.0.6/31 0.0.0.8/31
fly => what
confirm => no
`)
	lookAtPromise18(t, shortScript)
}

func TestLinesThatAreNone(t *testing.T) {
	for _, line := range []string{
		"", " ", "  ", "fly", "discard", "ok", "no", "what", "a", "0", "1 2", "10.0.0.0/8",
		"Set a 1", "SET a 1", "seT a 1", "Delete version", "COMMIT", "For 1", "CONFIRM", "Back 0", "Tick", "SHOW", "Hear 1 10.0.0.0/8", "GONE 1 10.0.0.0/8", "Lost 1", "BEST 10.0.0.0/8", "Cut 1 2",
		"sets a 1", "se a 1", "set\ta 1", "seta 1", "set.a.1", "commits", "committ", "commi", "tickk", "showw", "fort 1", "backs 0", "hears 1 10.0.0.0/8", "losts 1", "bests 10.0.0.0/8", "cuts 1 2", "rollback 0", "remove version", "for1", "back0",
		" set a 1", " delete version", " commit", " for 1", " confirm", " back 0", " tick", " show", " hear 1 10.0.0.0/8", " gone 1 10.0.0.0/8", " lost 1", " best 10.0.0.0/8", " cut 1 2",
		"commit ", "confirm ", "tick ", "show ", "for 1 ", "back 0 ", "lost 1 ", "best 10.0.0.0/8 ", "cut 1 2 ", "gone 1 10.0.0.0/8 ", "hear 1 10.0.0.0/8 ", "hear 1 10.0.0.0/8 3 ",
		"for  1", "back  0", "lost  1", "best  10.0.0.0/8", "cut  1 2", "cut 1  2", "gone  1 10.0.0.0/8", "gone 1  10.0.0.0/8", "hear  1 10.0.0.0/8", "hear 1  10.0.0.0/8", "hear 1 10.0.0.0/8  3", "hear 1 10.0.0.0/8 3  4",
		"commit 1", "confirm 1", "tick 1", "show 1", "commit commit", "commit a", "confirm a", "tick tick", "show a", "show version", "commit 0", "tick 0",
		"set", "set a", "set ", "delete", "for", "back", "hear", "hear 1", "hear 10.0.0.0/8", "gone", "gone 1", "lost", "best", "cut", "cut 1",
		"set a b c d e f 1", "set a b c d e f g 1", "set a a a a a a ", "delete a b c d e f", "delete version a b c d e", "delete      ",
		"for 1 2", "for 1 a", "back 0 0", "lost 1 2", "lost 1 10.0.0.0/8", "best 10.0.0.0/8 1", "best 1 10.0.0.0/8", "best 10.0.0.0/8 10.0.0.0/8", "cut 1 2 3", "gone 1 10.0.0.0/8 3", "gone 1 10.0.0.0/8 10.0.0.0/8",
		"hear 1 10.0.0.0/8 1 2 3 4 5 6 8 9 10 11 12", "hear 1 10.0.0.0/8 1 1 1 1 1 1 1 1 1 1 1", "hear 1 10.0.0.0/8 10.0.0.0/8", "hear 10.0.0.0/8 1", "gone 10.0.0.0/8 1",
		"tick\r", "set\x00a 1", "\x00", "\x00tick", "tick\x00", "\xff", "\xfftick", "t\xffick", "\u00a0tick", "tick\u00a0", "tick\t", "\ttick", "ｔick", "set\u00a0a\u00a01",
		strings.Repeat(" ", 2000), strings.Repeat("a ", 1000), "set" + strings.Repeat(" a", 1000), "hear 1 10.0.0.0/8" + strings.Repeat(" 1", 1000),
	} {
		text := scriptOf("set a 1", "for 9", "hear 1 10.0.0.0/8 3", line, "show", "best 10.0.0.0/8")
		want := scriptOf("ok", "ok", "new 10.0.0.0/8", "what", "left 9", "by 1 3")
		if told := impl.RunSpeaker(text); told != want {
			t.Errorf("%.100q: %q", line, told)
		}
		lookAtPromise18(t, text)
	}
}

func TestWordsAreCutAtEachBlank(t *testing.T) {
	lookAtRows(t, `
set  a 1 => no
set a  1 => no
set a 1  => no
set   => no
set a  => no
set  1 => no
delete  => no
delete version  => no
delete  version => no
delete      => no
hear 1  => no
hear 1  3 => no
gone 1  => no
best  => no
show => left 0
set a 1 => ok
set a b  => no
show => left 0 set.a.1
`)
}

func TestSetAndDelete(t *testing.T) {
	lookAtRows(t, `
set a 1 => ok
set a 1 => ok
set b c d e f 2 => ok
set b c d e 3 => ok
set b c d e f 2 => ok
set b c d e f g 2 => what
set b c d e f gggggggg => ok
set b c d e f ggggggggg => no
show => left 0 set.a.1 set.b.c.d.e.f.gggggggg
set A 1 => no
set a A => no
set a b_c => no
set a.b 1 => no
set a 1.0 => no
set a; 1 => no
set aaaaaaaa 12345678 => ok
set aaaaaaaaa 1 => no
set a 123456789 => no
set - - => ok
set 0 00 => ok
delete a b => no
delete a 1 => no
delete A => no
delete aaaaaaaaa => no
delete b c d e f => ok
delete b => no
delete b c d e f g => what
set b c d e f 1 => ok
set b c x 1 => ok
delete b c => ok
delete b => no
show => left 0 set.-.- set.0.00 set.a.1 set.aaaaaaaa.12345678
delete version => ok
delete version => no
delete - => ok
delete 0 => ok
delete a => ok
show => left 0 delete.version set.aaaaaaaa.12345678
delete aaaaaaaa => ok
show => left 0 delete.version
commit => ok
delete a => no
set version 0 => ok
show => left 0 set.version.0
set version x 1 => ok
show => left 0 set.version.x.1
set version 2 => ok
show => left 0 set.version.2
`)
}

func TestSetOfAsManyLeavesAsThereMayBe(t *testing.T) {
	var lines []string
	for i := range 32 {
		lines = append(lines, fmt.Sprint("set n", i, " 1"))
	}
	lines = append(lines, "set n0 2", "set n0 x 3", "delete version", "set z 1", "set y 1", "delete n1", "set y 1", "show", "commit", "show")
	answers := lookAtPromise18(t, scriptOf(lines...))
	for i, answer := range answers[:32] {
		if (answer == "ok") != (i < 29) || (answer == "no") != (i >= 29) {
			t.Errorf("%s: %s", lines[i], answer)
		}
	}
	if !slices.Equal(answers[32:39], strings.Fields("ok ok ok ok no ok ok")) {
		t.Error(answers[32:])
	}
}

func TestCommitsForATime(t *testing.T) {
	lookAtRows(t, `
confirm => no
tick => no
for 0 => no
for 1 => ok
show => left 0
tick => no
set a 1 => ok
for 0 => no
for 101 => no
for 999999999 => no
show => left 0 set.a.1
for 100 => ok
show => left 100
tick => ok
show => left 99
for 1 => ok
show => left 1
set b 2 => ok
delete version => ok
show => left 1 delete.version set.b.2
tick => ok
show => left 0 delete.version set.a.1 set.b.2
tick => no
confirm => no
for 3 => ok
tick => ok
tick => ok
confirm => ok
show => left 0
confirm => no
tick => no
set a 2 => ok
for 2 => ok
tick => ok
for 2 => ok
tick => ok
show => left 1
commit => ok
show => left 0
tick => no
back 0 => ok
show => left 0
back 1 => ok
show => left 0 set.a.1
back 2 => ok
show => left 0 delete.a delete.b set.version.0
for 5 => ok
back 0 => ok
show => left 5 delete.version set.a.2 set.b.2
for 7 => ok
show => left 0
tick => no
commit => ok
back 3 => no
`)
	lookAtRows(t, `
for x => what
for => what
for 1 2 => what
for 01 => what
for +1 => what
for -1 => what
for 1000000000 => what
for 100 => ok
set a 1 => ok
for 100 => ok
for 1000000000 => what
for 101 => no
show => left 100
`)
}

func TestBackToEachOfTheHistory(t *testing.T) {
	lookAtRows(t, `
back 0 => ok
back 1 => no
back 9 => no
back 10 => no
back 999999999 => no
back 1000000000 => what
back 00 => what
back -0 => what
back => what
show => left 0
`)
	var lines []string
	for many := 1; many <= mostHistory+3; many++ {
		lines = append(lines, fmt.Sprint("set a ", many), "commit")
		for back := range mostHistory + 2 {
			text := scriptOf(append(slices.Clone(lines), fmt.Sprint("back ", back), "show")...)
			answers := lookAtScript(t, text)
			told := answers[len(answers)-2:]
			want := []string{"ok", fmt.Sprint("left 0 set.a.", many-back)}
			switch {
			case back > many || back >= mostHistory:
				want = []string{"no", "left 0"}
			case back == many:
				want[1] = "left 0 delete.a"
			case back == 0:
				want[1] = "left 0"
			}
			if !slices.Equal(told, want) {
				t.Errorf("%q: %q, not %q", text, told, want)
			}
		}
	}
}

func TestShowOfCommandsOfBothKinds(t *testing.T) {
	lookAtRows(t, `
set a b c 1 => ok
set a b d 2 => ok
set e 3 => ok
commit => ok
show => left 0
delete a b c => ok
set a b d 4 => ok
set - 5 => ok
delete e => ok
show => left 0 delete.a.b.c delete.e set.-.5 set.a.b.d.4
set a 6 => ok
show => left 0 delete.a.b.c delete.a.b.d delete.e set.-.5 set.a.6
for 2 => ok
show => left 2
set a b c 1 => ok
show => left 2 delete.a set.a.b.c.1
tick => ok
tick => ok
show => left 0 delete.a.b.d delete.e set.-.5
show => left 0 delete.a.b.d delete.e set.-.5
show a => what
back 0 => ok
show => left 0
`)
}

func TestHearAndBest(t *testing.T) {
	lookAtRows(t, `
best 10.0.0.0/8 => none
hear 0 10.0.0.0/8 => new 10.0.0.0/8
best 10.0.0.0/8 => by 0
hear 0 10.0.0.0/8 => new
hear 1 10.0.0.0/8 => new
best 10.0.0.0/8 => by 0
hear 0 10.0.0.0/8 1 2 3 4 5 6 8 9 10 11 => new 10.0.0.0/8
best 10.0.0.0/8 => by 1
lost 1 => new 10.0.0.0/8
best 10.0.0.0/8 => by 0 1 2 3 4 5 6 8 9 10 11
hear 0 10.0.0.0/8 1 2 3 4 5 6 8 9 10 11 12 => what
hear 5 10.0.0.0/8 1 2 3 => new 10.0.0.0/8
hear 4 10.0.0.0/8 4 5 6 => new 10.0.0.0/8
hear 4 10.0.0.0/8 4 5 6 => new
hear 4 10.0.0.0/8 4 5 65535 => new 10.0.0.0/8
hear 4 10.0.0.0/8 4 5 65536 => no
hear 4 10.0.0.0/8 0 => no
hear 4 10.0.0.0/8 999999999 => no
hear 4 10.0.0.0/8 1000000000 => what
hear 6 10.0.0.0/8 => no
hear 7 10.0.0.0/8 1 => no
hear 999999999 10.0.0.0/8 => no
hear 1000000000 10.0.0.0/8 => what
best 10.0.0.0/8 => by 4 4 5 65535
hear 3 10.0.0.0/8 7 => new
best 10.0.0.0/8 => by 4 4 5 65535
hear 4 10.0.0.0/8 2 7 => new 10.0.0.0/8
best 10.0.0.0/8 => by 5 1 2 3
hear 5 10.0.0.0/8 1 7 3 => new 10.0.0.0/8
best 10.0.0.0/8 => by 0 1 2 3 4 5 6 8 9 10 11
gone 0 10.0.0.0/8 => new 10.0.0.0/8
best 10.0.0.0/8 => none
gone 3 10.0.0.0/8 => new
hear 3 10.0.0.0/8 77 70 17 => new 10.0.0.0/8
best 10.0.0.0/8 => by 3 77 70 17
best 10.0.0.0/9 => none
best 10.0.0.0/7 => none
best 0.0.0.0/0 => none
hear 3 0.0.0.0/0 1 1 1 => new 0.0.0.0/0
best 0.0.0.0/0 => by 3 1 1 1
lost 3 => new 0.0.0.0/0 10.0.0.0/8
lost 3 => new
`)
}

func TestTextsThatAreNoPrefixInLines(t *testing.T) {
	for _, text := range []string{"", "0", "10", "10.0.0.0", "10.0.0.0/", "10.0.0/8", "10.0.0.0/33", "10.0.0.1/8", "10.128.0.0/8", "10.0.0.0/08", "010.0.0.0/8", "256.0.0.0/8", "10.0.0.0/8/8", "10.0.0.0.0/8", "x", "a.b.c.d/8", "0.0.0.1/31", "0.0.0.0/-1", "10.0.0.0/8\x00", "\xff", "10.0.0.0\\8", "255.255.255.255/31", "best", "-", "10.0.0.0/+8", "١0.0.0.0/8"} {
		lines := []string{"hear 1 0.0.0.0/0 3", "hear 1 10.0.0.0/8 3", "hear 2 " + text, "hear 2 " + text + " 3 4", "gone 1 " + text, "best " + text, "hear 6 " + text, "gone 6 " + text, "hear 2 " + text + " 65536", "best 0.0.0.0/0", "best 10.0.0.0/8"}
		want := scriptOf("new 0.0.0.0/0", "new 10.0.0.0/8", "no", "no", "no", "no", "no", "no", "no", "by 1 3", "by 1 3")
		if told := impl.RunSpeaker(scriptOf(lines...)); told != want {
			t.Errorf("%q: %q", text, told)
		}
		lookAtPromise18(t, scriptOf(lines...))
		// What is no number makes it no line, whatever the prefix is.
		bad := scriptOf("hear x "+text, "hear 1 "+text+" x", "hear 01 "+text+" 3", "gone x "+text, "gone 1234567890 "+text, "hear 1 "+text+" 03", "best "+text+" 1", "gone 1 "+text+" 1")
		if told := impl.RunSpeaker(bad); told != strings.Repeat("what\n", 8) {
			t.Errorf("%q: %q", text, told)
		}
		lookAtScript(t, bad)
	}
}

func TestGoneAndLost(t *testing.T) {
	lookAtRows(t, `
gone 1 10.0.0.0/8 => new
lost 1 => new
lost 0 => new
lost 5 => new
lost 6 => no
lost 7 => no
lost 999999999 => no
lost 1000000000 => what
gone 6 10.0.0.0/8 => no
gone 5 10.0.0.0/8 => new
hear 1 192.168.0.0/16 3 => new 192.168.0.0/16
hear 1 10.0.0.0/8 3 => new 10.0.0.0/8
hear 1 10.0.0.0/9 7 => new
hear 1 9.0.0.0/8 3 => new 9.0.0.0/8
hear 2 9.0.0.0/8 4 => new
hear 2 10.0.0.0/8 4 4 => new
hear 3 10.0.0.0/8 5 => new
gone 2 192.168.0.0/16 => new
gone 2 10.0.0.0/9 => new
gone 1 10.0.0.0/7 => new
gone 2 10.0.0.0/8 => new
gone 2 10.0.0.0/8 => new
lost 2 => new
lost 1 => new 9.0.0.0/8 10.0.0.0/8 192.168.0.0/16
best 9.0.0.0/8 => none
best 10.0.0.0/8 => by 3 5
best 192.168.0.0/16 => none
lost 1 => new
gone 3 10.0.0.0/8 => new 10.0.0.0/8
gone 3 10.0.0.0/8 => new
`)
}

func TestHearOfAsManyRowsAsThereMayBe(t *testing.T) {
	var lines []string
	for i := range mostRows + 2 {
		lines = append(lines, fmt.Sprintf("hear 1 %d.0.0.0/8 3", 100-i))
	}
	lines = append(lines, "hear 2 100.0.0.0/8 4", "gone 2 100.0.0.0/8", "gone 1 100.0.0.0/8", "hear 1 1.0.0.0/8", "hear 1 2.0.0.0/8", "best 2.0.0.0/8", "best 1.0.0.0/8", "lost 1", "hear 1 2.0.0.0/8")
	answers := lookAtPromise18(t, scriptOf(lines...))
	for i, answer := range answers[:mostRows+2] {
		want := fmt.Sprintf("new %d.0.0.0/8", 100-i)
		if i >= mostRows {
			want = "no"
		}
		if answer != want {
			t.Errorf("%s: %s", lines[i], answer)
		}
	}
	told := answers[mostRows+2:]
	if !slices.Equal(slices.Delete(slices.Clone(told), 7, 8), []string{"new", "new", "new 100.0.0.0/8", "new 1.0.0.0/8", "no", "none", "by 1", "new 2.0.0.0/8"}) {
		t.Errorf("%q", told)
	}
	if lost := strings.Fields(told[7]); len(lost) != mostRows+1 || lost[1] != "1.0.0.0/8" || lost[2] != "81.0.0.0/8" || lost[mostRows] != "99.0.0.0/8" {
		t.Errorf("%q", told[7])
	}
}

func TestCut(t *testing.T) {
	lookAtRows(t, `
cut 0 0 => is 0.0.0.0/32
cut 0 1 => is 0.0.0.0/31
cut 1 0 => no
cut 9 5 => no
cut 1 1 => is 0.0.0.1/32
cut 1 2 => is 0.0.0.1/32 0.0.0.2/32
cut 0 255 => is 0.0.0.0/24
cut 0 256 => is 0.0.0.0/24 0.0.1.0/32
cut 999999999 999999999 => is 59.154.201.255/32
cut 999999999 999999998 => no
cut 999999998 999999999 => is 59.154.201.254/31
cut 1000000000 1000000000 => what
cut 0 1000000000 => what
cut 0 4294967295 => what
cut 4294967295 4294967295 => what
cut 4294967295 0 => what
cut 0 999999999 => is 0.0.0.0/3 32.0.0.0/4 48.0.0.0/5 56.0.0.0/7 58.0.0.0/8 59.0.0.0/9 59.128.0.0/12 59.144.0.0/13 59.152.0.0/15 59.154.0.0/17 59.154.128.0/18 59.154.192.0/21 59.154.200.0/23
cut 16777216 33554431 => is 1.0.0.0/8
cut 16777215 33554432 => is 0.255.255.255/32 1.0.0.0/8 2.0.0.0/32
cut 0 4294967296 => what
cut 5 => what
cut 5 x => what
cut x 5 => what
cut 05 9 => what
cut -1 9 => what
cut 5 +9 => what
cut 0.0.0.5/32 0.0.0.9/32 => what
cut 5 9 1 => what
`)
	r := rand.New(rand.NewSource(180))
	for range 40 {
		var lines []string
		for range mostLines {
			lines = append(lines, fmt.Sprint("cut ", r.Intn(1<<r.Intn(31)), " ", r.Intn(1<<r.Intn(31))))
		}
		lookAtScript(t, scriptOf(lines...))
	}
}

// TestNumbersInLines puts words that are numbers and words that are none wherever a number belongs.
func TestNumbersInLines(t *testing.T) {
	ahead := []string{"set a 1", "for 9", "hear 1 10.0.0.0/8 3", "hear 0 10.0.0.0/8 3 4"}
	places := []string{"for %s", "back %s", "lost %s", "gone %s 10.0.0.0/8", "hear %s 10.0.0.0/8", "hear %s 10.0.0.0/8 3 4", "hear 1 10.0.0.0/8 %s", "hear 1 10.0.0.0/8 %s 2", "hear 1 10.0.0.0/8 2 %s", "hear 1 10.0.0.0/8 1 2 3 4 5 %s 6 8 9 10", "hear 1 10.0.0.0/8 1 2 3 4 5 6 8 9 10 %s", "cut %s 999999999", "cut 0 %s", "cut %s %[1]s"}
	for _, place := range places {
		for _, word := range []string{"", "00", "01", "09", "000000000", "000000001", "0000000001", "1000000000", "1234567890", "4294967296", "9999999999", "99999999999999999999", "18446744073709551617", "+1", "-1", "-0", "+0", "+", "-", "x", "1x", "x1", "1.0", "1.", ".1", "1e1", "0x1", "0b1", "1_0", "1,0", "\x00", "1\x00", "\x001", "1\xff", "\xff", "١", "１", "1\r", "\t1", "1\u00a0", "#1", "/", ":", "1/", "1:", "/1", ":1", "a", "10.0.0.0/8", "²", "½"} {
			line := fmt.Sprintf(place, word)
			answers := lookAtScript(t, scriptOf(append(slices.Clone(ahead), line, "show", "best 10.0.0.0/8")...))
			if len(answers) != len(ahead)+3 || !slices.Equal(answers[len(ahead):], []string{"what", "left 9", "by 1 3"}) {
				t.Errorf("%q: %q", line, answers)
			}
		}
		for _, word := range strings.Fields("0 1 2 3 4 5 6 7 8 9 10 11 99 100 101 123 1000 65535 65536 99999 1234567 12345678 123456789 99999999 100000000 900000000 999999999") {
			answers := lookAtPromise18(t, scriptOf(append(slices.Clone(ahead), fmt.Sprintf(place, word), "show", "best 10.0.0.0/8")...))
			if answers[len(ahead)] == "what" {
				t.Errorf("%s at %s: what", word, place)
			}
		}
	}
}

// sampleLines has lines of each form, as short as they come, for changes at each of their places.
var sampleLines = strings.Split("set a 1|set a b c d e 1|delete a|delete version|commit|for 2|for 100|confirm|back 0|back 1|tick|show|hear 1 10.0.0.0/8|hear 2 10.0.0.0/8 7 3|hear 3 0.0.0.0/0 1 2 3 4 5 6 8 9 10 11|gone 0 10.0.0.0/8|lost 0|best 10.0.0.0/8|cut 0 9|cut 12345678 999999999|fly|", "|")

// sampleStates are scripts ahead of such lines.
var sampleStates = [][]string{
	nil,
	{"set a 1", "for 3", "set b 1", "hear 0 10.0.0.0/8 3", "hear 5 10.0.0.0/8 4 4"},
}

func TestLinesWithAByteAside(t *testing.T) {
	bytes := "\x00\t\r !+-./0189:@AZ[`abctz{\x7f\x80\xc2\xa0\xff\n"
	for _, ahead := range sampleStates {
		look := func(line string) {
			lookAtScript(t, scriptOf(append(slices.Clone(ahead), line, "show", "best 10.0.0.0/8")...))
			stopAtFault(t)
		}
		for _, line := range sampleLines {
			for at := range len(line) + 1 {
				for i := range len(bytes) {
					look(line[:at] + bytes[i:i+1] + line[at:])
					if at < len(line) {
						look(line[:at] + bytes[i:i+1] + line[at+1:])
					}
				}
				if at < len(line) {
					look(line[:at] + line[at+1:])
					look(line[:at] + line[at:at+1] + line[at:])
				}
			}
		}
	}
}

func TestLinesWithWordsAside(t *testing.T) {
	words := strings.Split("|0|1|7|9|10|x|a|version|10.0.0.0/8|set|commit|00|+1|\x00|\xff|A", "|")
	for _, ahead := range sampleStates {
		look := func(line string) {
			lookAtScript(t, scriptOf(append(slices.Clone(ahead), line, "show", "best 10.0.0.0/8")...))
			stopAtFault(t)
		}
		for _, line := range sampleLines {
			l := strings.Split(line, " ")
			for at := range len(l) + 1 {
				for _, word := range words {
					look(strings.Join(slices.Insert(slices.Clone(l), at, word), " "))
					if at < len(l) {
						with := slices.Clone(l)
						with[at] = word
						look(strings.Join(with, " "))
					}
				}
				if at < len(l) {
					look(strings.Join(slices.Delete(slices.Clone(l), at, at+1), " "))
				}
				look(strings.Join(append(slices.Clone(l), slices.Repeat([]string{l[len(l)-1]}, at+6)...), " "))
			}
		}
	}
}

func TestAllPairsAndTriplesOfSampleLines(t *testing.T) {
	for _, ahead := range sampleStates {
		for _, first := range sampleLines {
			for _, second := range sampleLines {
				lookAtScript(t, scriptOf(append(slices.Clone(ahead), first, second, "show", "best 10.0.0.0/8", "tick", "show", "lost 0", "best 10.0.0.0/8")...))
				for _, third := range sampleLines[:12] {
					lookAtScript(t, scriptOf(append(slices.Clone(ahead), first, second, third, "show")...))
				}
				stopAtFault(t)
			}
		}
	}
}

func TestAllShortScripts(t *testing.T) {
	for a := range 256 {
		lookAtScript(t, string([]byte{byte(a)}))
		for b := range 256 {
			lookAtScript(t, string([]byte{byte(a), byte(b)}))
			lookAtScript(t, "show\n"+string([]byte{byte(a), byte(b)})+"\nshow\n")
		}
		stopAtFault(t)
	}
}

// lineOfOp has no line for OpDiscard.
func lineOfOp(o impl.Op) string {
	switch o.Kind {
	case impl.OpSet:
		return "set " + strings.Join(o.Path, " ") + " " + o.Value
	case impl.OpDelete:
		return "delete " + strings.Join(o.Path, " ")
	case impl.OpCommit:
		return "commit"
	case impl.OpCommitFor:
		return fmt.Sprint("for ", o.N)
	case impl.OpConfirm:
		return "confirm"
	case impl.OpRollback:
		return fmt.Sprint("back ", o.N)
	case impl.OpTick:
		return "tick"
	}
	return "discard"
}

func oneOf(l []string, r *rand.Rand) string {
	return l[r.Intn(len(l))]
}

// heardLine hears of a few prefixes and a few paths, so that what is told of one meets what was told of it before.
func heardLine(prefixes []string, r *rand.Rand) string {
	peer, prefix := fmt.Sprint(r.Intn(6)), oneOf(prefixes, r)
	switch r.Intn(10) {
	case 0:
		return "gone " + peer + " " + prefix
	case 1:
		return "lost " + peer
	case 2, 3:
		return "best " + prefix
	case 4:
		return fmt.Sprint("cut ", r.Intn(40), " ", r.Intn(1<<r.Intn(30)))
	}
	line := "hear " + peer + " " + prefix
	for range min(r.Intn(12), r.Intn(12)) {
		line += " " + oneOf([]string{"1", "2", "3", "7", "65535"}, r)
	}
	return line
}

// spoiled changes a word or a byte of a line, or how many it has.
func spoiled(line string, r *rand.Rand) string {
	words := strings.Split(line, " ")
	at := r.Intn(len(words))
	switch r.Intn(8) {
	case 0:
		return line + " " + oneOf([]string{"", "1", "a", "0"}, r)
	case 1:
		return strings.Join(slices.Delete(words, at, at+1), " ")
	case 2:
		words[at] = oneOf([]string{"", "0", "6", "01", "x", "A", "65536", "999999999", "1000000000", "10.0.0.1/8"}, r)
		return strings.Join(words, " ")
	case 3:
		return " " + line
	case 4:
		return strings.ToUpper(line)
	case 5:
		return strings.Join(slices.Insert(words, at, ""), " ")
	case 6:
		return line + strings.Repeat(" 1", r.Intn(12))
	}
	b := []byte(line)
	if len(b) > 0 {
		b[r.Intn(len(b))] = byte(r.Intn(256))
	}
	return string(b)
}

// mixedScript may be no script, where a line is changed into two.
func mixedScript(many int, r *rand.Rand) string {
	ops := mixedOps(many, r)
	prefixes := []string{"10.0.0.0/8", "10.0.0.0/9", "0.0.0.0/0", "1.2.3.4/32"}
	if r.Intn(4) == 0 {
		for i := range 40 {
			prefixes = append(prefixes, fmt.Sprintf("%d.0.0.0/%d", 20+i, 8+i%3))
		}
	}
	heard, spoils := r.Intn(11), r.Intn(3)
	text := ""
	for len(ops) > 0 && strings.Count(text, "\n") < many {
		line := heardLine(prefixes, r)
		if r.Intn(10) >= heard {
			line = lineOfOp(ops[0])
			ops = ops[1:]
		} else if r.Intn(5) == 0 {
			line = "show"
		}
		if r.Intn(12) < spoils {
			line = spoiled(line, r)
		}
		if len(text)+len(line)+1 > mostScript {
			break
		}
		text += line + "\n"
	}
	return text
}

// countAnswers counts the kinds of what is told.
func countAnswers(counts map[string]int, text string, answers []string) {
	lines, is := scriptLines(text)
	if !is {
		counts["no script"]++
		return
	}
	if len(lines) == mostLines {
		counts["all lines"]++
	}
	for i, answer := range answers {
		kind, rest, _ := strings.Cut(answer, " ")
		if form := askedBy(lines[i]).form; kind == "no" || kind == "ok" {
			kind += " of " + form
		}
		switch {
		case kind == "left" && rest[0] != '0' && strings.Contains(rest, " "):
			kind = "pending while it waits"
		case kind == "left" && strings.Contains(rest, "delete.") && strings.Contains(rest, "set."):
			kind = "pending of both kinds"
		case kind == "new" && rest == "":
			kind = "new of none"
		case kind == "new" && strings.Contains(rest, " "):
			kind = "new of many"
		}
		counts[kind]++
	}
}

func TestManyScripts(t *testing.T) {
	r := rand.New(rand.NewSource(181))
	counts := map[string]int{}
	for i := range 1500 {
		text := mixedScript(min(i%(mostLines+20), mostLines), r)
		if i%5 == 0 {
			countAnswers(counts, text, lookAtPromise18(t, text))
		} else {
			countAnswers(counts, text, lookAtScript(t, text))
		}
		stopAtFault(t)
	}
	metAll(t, counts, 20, "all lines, what, ok of set, ok of delete, ok of commit, ok of for, ok of confirm, ok of back, ok of tick, no of set, no of delete, no of for, no of confirm, no of back, no of tick, left, new, new of none, new of many, no of hear, no of gone, by, none, no of best, is, no of cut")
	metAll(t, counts, 5, "no of lost, pending while it waits, pending of both kinds")
}

func TestSpeakerOfBehindEachKindOfLine(t *testing.T) {
	net := impl.Prefix{Addr: 10 << 24, Len: 8}
	for _, c := range []struct {
		text string
		ops  string
		rib  impl.Rib
	}{
		{"set a 1\n", "set a=1", ribWith()},
		{"set a b c d e 1\n", "set a b c d e=1", ribWith()},
		{"delete version\n", "delete version", ribWith()},
		{"set a 1\ncommit\n", "set a=1; commit", ribWith()},
		{"set a 1\nfor 100\n", "set a=1; for 100", ribWith()},
		{"set a 1\nfor 3\ntick\n", "set a=1; for 3; tick", ribWith()},
		{"set a 1\nfor 1\ntick\n", "set a=1; for 1; tick", ribWith()},
		{"set a 1\nfor 3\nconfirm\n", "set a=1; for 3; confirm", ribWith()},
		{"set a 1\ncommit\nback 1\n", "set a=1; commit; back 1", ribWith()},
		{"show\n", "", ribWith()},
		{"best 10.0.0.0/8\n", "", ribWith()},
		{"cut 5 9\n", "", ribWith()},
		{"what\n", "", ribWith()},
		{"\n", "", ribWith()},
		{"for 0\nconfirm\ntick\nback 1\ndelete a\nset A 1\n", "", ribWith()},
		{"hear 1 10.0.0.0/8 3 4\n", "", ribWith(ribRow(net, offerBy(1, 100, 3, 4)))},
		{"hear 1 10.0.0.0/8 7\n", "", ribWith(ribRow(net, offerBy(1, 100, 7)))},
		{"hear 5 10.0.0.0/8\nhear 0 10.0.0.0/8 65535\n", "", ribWith(ribRow(net, offerBy(0, 100, 65535), offerBy(5, 100)))},
		{"hear 5 10.0.0.0/8\nhear 0 10.0.0.0/8 65535\ngone 5 10.0.0.0/8\n", "", ribWith(ribRow(net, offerBy(0, 100, 65535)))},
		{"hear 5 10.0.0.0/8\nhear 0 10.0.0.0/8 65535\nlost 0\n", "", ribWith(ribRow(net, offerBy(5, 100)))},
		{"hear 5 10.0.0.0/8\nlost 5\n", "", ribWith()},
		{"hear 6 10.0.0.0/8\nhear 1 10.0.0.1/8\nhear 1 10.0.0.0/8 0\nlost 6\ngone 6 10.0.0.0/8\n", "", ribWith()},
		{"set a 1\nhear 1 10.0.0.0/8 3\nset b 2\nlost 2\nfor 5\nbest 10.0.0.0/8\nset c 3\n", "set a=1; set b=2; for 5; set c=3", ribWith(ribRow(net, offerBy(1, 100, 3)))},
	} {
		s, r, ok := impl.SpeakerOf(c.text)
		if !sameStore(s, storeBy(c.ops)) || !sameRib(r, c.rib) || !ok {
			t.Errorf("SpeakerOf(%q) = %s, %s, %v, not %s, %s", c.text, brief(s), brief(r), ok, brief(storeBy(c.ops)), brief(c.rib))
		}
		lookAtPromise18(t, c.text)
	}
}

// speakerLists has all lists of what SpeakerOf answers.
func speakerLists(name string, s impl.Store, r impl.Rib) []memoryList {
	return append(storeLists(name, s), ribLists(name, r)...)
}

func handsOutSpeakerBehind(s impl.Store, r impl.Rib) bool {
	return handsOutStoreBehind(s) || handsOutRibBehind(r)
}

// lookAtSpeakerMemory writes into what is answered, and asks again.
func lookAtSpeakerMemory(t *testing.T, text string) {
	t.Helper()
	told := impl.RunSpeaker(text)
	s, r, ok := impl.SpeakerOf(text)
	other, otherRib, _ := impl.SpeakerOf(text)
	if !sameStore(s, other) || !sameRib(r, otherRib) || handsOutSpeakerBehind(s, r) {
		t.Fatalf("SpeakerOf(%s) = %s, %s, then %s, %s", quoted(text), brief(s), brief(r), brief(other), brief(otherRib))
	}
	lookAtLists(t, "SpeakerOf("+quoted(text)+")", slices.Concat(speakerLists("one", s, r), speakerLists("the next", other, otherRib)))
	lookAtScript(t, text)
	if again := impl.RunSpeaker(text); again != told {
		t.Errorf("RunSpeaker(%s) = %s, then %s", quoted(text), quoted(told), quoted(again))
	}
	if _, is := scriptLines(text); is != ok {
		t.Errorf("SpeakerOf(%s): %v", quoted(text), ok)
	}
	stopAtFault(t)
}

func TestAnswersOfSpeakersAreNotShared(t *testing.T) {
	full := ""
	for i := range mostRows {
		full += fmt.Sprintf("hear %d %d.0.0.0/8 3 4 7\nhear %d %d.0.0.0/8\n", i%3, i, 3+i%3, i)
	}
	for _, text := range []string{"", "\n", "x", "show\n", shortScript, full, "set a 1\n", "set a 1\nset b c 2\ncommit\n", "set a 1\nfor 3\n", "set a 1\nfor 1\ntick\n", "back 0\n", "set a 1\ncommit\nback 1\nfor 9\nback 0\n", "hear 1 10.0.0.0/8 3 4\nhear 2 10.0.0.0/8 3 4\nhear 1 10.0.0.0/9 3 4\n", "for 5\n", "delete version\ncommit\n", strings.Repeat("\n", mostLines+1), strings.Repeat("a", mostScript+1)} {
		lookAtSpeakerMemory(t, text)
	}
	r := rand.New(rand.NewSource(182))
	for i := range 300 {
		lookAtSpeakerMemory(t, mixedScript(min(i, mostLines), r))
	}
}

func TestAnyTextIsAnswered(t *testing.T) {
	r := rand.New(rand.NewSource(183))
	some := []string{"\n", "\n", " ", "set", "delete", "for", "back", "hear", "gone", "lost", "best", "cut", "show", "tick", "commit", "confirm", "a", "1", "0", "10.0.0.0/8", "\x00", "\xff", "999999999", "version", "\r", "\t", "é", "\xf0\x9f"}
	for i := range 3000 {
		text := ""
		for range r.Intn(60) {
			text += oneOf(some, r)
			if r.Intn(2) == 0 {
				text += " "
			}
		}
		b := make([]byte, r.Intn(100))
		for at := range b {
			b[at] = byte(r.Intn(1 + 255>>(i%8)))
		}
		for _, one := range []string{text, text + "\n", string(b), string(b) + "\n", text + string(b) + "\n"} {
			lookAtScript(t, one)
		}
		stopAtFault(t)
	}
}

func TestSpeakersAtTheSameTime(t *testing.T) {
	r := rand.New(rand.NewSource(184))
	var texts, want []string
	for range 40 {
		text := mixedScript(40, r)
		texts, want = append(texts, text), append(want, impl.RunSpeaker(text))
	}
	var all sync.WaitGroup
	for range 8 {
		all.Go(func() {
			for i, text := range texts {
				if told := impl.RunSpeaker(text); told != want[i] {
					t.Errorf("RunSpeaker(%s) = %s, not %s", quoted(text), quoted(told), quoted(want[i]))
				}
			}
		})
	}
	all.Wait()
}

// TestAnswersAreAsserted looks for an interface with methods that is called, and for what is asserted of its values: two values, the first one used where the second one holds alone.
func TestAnswersAreAsserted(t *testing.T) {
	parsed, err := parser.ParseFile(token.NewFileSet(), "../impl/l18_lines.go", nil, parser.SkipObjectResolution)
	if err != nil {
		t.Fatal(err)
	}
	methods, called := map[string]bool{}, map[string]bool{}
	asserted, guarded := 0, 0
	ast.Inspect(parsed, func(n ast.Node) bool {
		switch x := n.(type) {
		case *ast.InterfaceType:
			for _, m := range x.Methods.List {
				for _, name := range m.Names {
					methods[name.Name] = true
				}
			}
		case *ast.CallExpr:
			if f, is := x.Fun.(*ast.SelectorExpr); is {
				called[f.Sel.Name] = true
			}
		case *ast.TypeAssertExpr:
			asserted++
		case *ast.IfStmt:
			if a, is := x.Init.(*ast.AssignStmt); is && len(a.Lhs) == 2 && len(a.Rhs) == 1 {
				if _, is := a.Rhs[0].(*ast.TypeAssertExpr); is && fmt.Sprint(x.Cond) == fmt.Sprint(a.Lhs[1]) && x.Else == nil {
					guarded++
				}
			}
		}
		return true
	})
	if asserted == 0 || guarded != asserted || len(methods) == 0 {
		t.Error(asserted, guarded, methods)
	}
	for name := range methods {
		if !called[name] {
			t.Error("not called:", name)
		}
	}
}
