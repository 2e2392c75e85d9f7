package tests

import (
	"fmt"
	"go/ast"
	"go/parser"
	"go/token"
	"maps"
	"math/rand"
	"regexp"
	"slices"
	"strings"
	"testing"

	"loop.example/g00344/impl"
)

const (
	mostLeaves   = 30
	mostDepth    = 5
	mostSource   = 1000
	longestWord  = 8
	mostCommands = 80
)

var oneWord = regexp.MustCompile("^[a-z0-9-]{1,8}$")

// wayOf reads the words of a path, with one blank between.
func wayOf(text string) []string {
	return strings.Split(text, " ")
}

// leafOf reads a leaf: its Path, a sign, and its Value.
func leafOf(text string) impl.Leaf {
	path, value, _ := strings.Cut(text, "=")
	return impl.Leaf{Path: wayOf(path), Value: value}
}

// leavesOf reads leaves with a comma between.
func leavesOf(text string) []impl.Leaf {
	var l []impl.Leaf
	for _, leaf := range strings.FieldsFunc(text, func(r rune) bool { return r == ',' }) {
		l = append(l, leafOf(strings.TrimSpace(leaf)))
	}
	return l
}

// commandsOf reads commands with a comma between: a sign +, a Path, =, a Value, or a sign /, a Path.
func commandsOf(text string) []impl.Command {
	var l []impl.Command
	for _, c := range strings.FieldsFunc(text, func(r rune) bool { return r == ',' }) {
		c = strings.TrimSpace(c)
		leaf := leafOf(c[1:])
		l = append(l, impl.Command{Set: c[0] == '+', Path: leaf.Path, Value: leaf.Value})
	}
	return l
}

func sameLeaf(a, b impl.Leaf) bool {
	return a.Value == b.Value && slices.Equal(a.Path, b.Path)
}

func sameConfig(a, b []impl.Leaf) bool {
	return slices.EqualFunc(a, b, sameLeaf)
}

func sameCommand(a, b impl.Command) bool {
	return a.Set == b.Set && a.Value == b.Value && slices.Equal(a.Path, b.Path)
}

func sameCommands(a, b []impl.Command) bool {
	return slices.EqualFunc(a, b, sameCommand)
}

func isWayByWords(path []string) bool {
	return len(path) >= 1 && len(path) <= mostDepth && !slices.ContainsFunc(path, func(w string) bool { return !oneWord.MatchString(w) })
}

// isWithin tells whether a path, its words joined, is the beginning of another one, or it.
func isWithin(path, other string) bool {
	return other == path || strings.HasPrefix(other, path+" ")
}

func compareWays(a, b []string) int {
	for i := range min(len(a), len(b)) {
		if a[i] < b[i] {
			return -1
		}
		if a[i] > b[i] {
			return 1
		}
	}
	return len(a) - len(b)
}

// goodConfigByWords holds each leaf against each other one.
func goodConfigByWords(l []impl.Leaf) bool {
	good := len(l) <= mostLeaves
	for i, a := range l {
		good = good && isWayByWords(a.Path) && oneWord.MatchString(a.Value)
		for _, b := range l[:i] {
			p, q := strings.Join(a.Path, " "), strings.Join(b.Path, " ")
			good = good && compareWays(b.Path, a.Path) < 0 && !isWithin(p, q) && !isWithin(q, p)
		}
	}
	return good
}

// configModel has a configuration's values by their paths, the words of which are joined.
type configModel map[string]string

func configModelOf(l []impl.Leaf) configModel {
	m := configModel{}
	for _, leaf := range l {
		m[strings.Join(leaf.Path, " ")] = leaf.Value
	}
	return m
}

func (m configModel) leaves() []impl.Leaf {
	var l []impl.Leaf
	for path, value := range m {
		l = append(l, impl.Leaf{Path: wayOf(path), Value: value})
	}
	slices.SortFunc(l, func(a, b impl.Leaf) int { return compareWays(a.Path, b.Path) })
	return l
}

func (m configModel) set(path, value string) bool {
	maps.DeleteFunc(m, func(other, _ string) bool { return isWithin(path, other) || isWithin(other, path) })
	m[path] = value
	return len(m) <= mostLeaves
}

func (m configModel) remove(path string) bool {
	before := len(m)
	maps.DeleteFunc(m, func(other, _ string) bool { return isWithin(path, other) })
	return len(m) < before
}

func (m configModel) under(path string) []impl.Leaf {
	below := configModel{}
	for other, value := range m {
		if rest, is := strings.CutPrefix(other, path+" "); is {
			below[rest] = value
		}
	}
	return below.leaves()
}

func (m configModel) do(commands []impl.Command) bool {
	for _, c := range commands {
		path := strings.Join(c.Path, " ")
		if c.Set && !m.set(path, c.Value) || !c.Set && !m.remove(path) {
			return false
		}
	}
	return true
}

func diffByModel(a, b []impl.Leaf) []impl.Command {
	was, is := configModelOf(a), configModelOf(b)
	var commands []impl.Command
	for _, leaf := range was.leaves() {
		if _, stays := is[strings.Join(leaf.Path, " ")]; !stays {
			commands = append(commands, impl.Command{Path: leaf.Path})
		}
	}
	for _, leaf := range is.leaves() {
		if value, had := was[strings.Join(leaf.Path, " ")]; !had || value != leaf.Value {
			commands = append(commands, impl.Command{Set: true, Path: leaf.Path, Value: leaf.Value})
		}
	}
	return commands
}

// configTextByModel goes down word by word: first words are told with all that is below them.
func configTextByModel(m configModel, ahead string) string {
	firsts := map[string]bool{}
	for path := range m {
		first, _, _ := strings.Cut(path, " ")
		firsts[first] = true
	}
	text := ""
	for _, first := range slices.Sorted(maps.Keys(firsts)) {
		if value, is := m[first]; is {
			text += ahead + first + " " + value + ";\n"
			continue
		}
		text += ahead + first + " {\n" + configTextByModel(configModelOf(m.under(first)), ahead+"  ") + ahead + "}\n"
	}
	return text
}

// configReading is what reads a text a byte at a time, by a table of what may stand where.
type configReading struct {
	state  string
	around []string
	name   string
	value  string
	leaves []impl.Leaf
}

func kindOfByte(b byte) string {
	switch {
	case b == ' ' || b == '\n':
		return "gap"
	case b == '{' || b == '}' || b == ';':
		return string(b)
	case oneWord.MatchString(string(rune(b))):
		return "word"
	}
	return "none"
}

// take tells whether the byte can stand there.
func (c *configReading) take(b byte) bool {
	switch c.state + " " + kindOfByte(b) {
	case "item gap", "behind gap", "ended gap":
	case "item word":
		c.state, c.name = "name", string(b)
	case "name word":
		c.name += string(b)
	case "name gap":
		c.state = "behind"
	case "name {", "behind {":
		c.state, c.around = "item", append(c.around, c.name)
	case "behind word":
		c.state, c.value = "value", string(b)
	case "value word":
		c.value += string(b)
	case "value gap":
		c.state = "ended"
	case "value ;", "ended ;":
		c.leaves = append(c.leaves, impl.Leaf{Path: append(slices.Clone(c.around), c.name), Value: c.value})
		c.state = "item"
	case "item }":
		if len(c.around) == 0 {
			return false
		}
		c.around = c.around[:len(c.around)-1]
	default:
		return false
	}
	return true
}

func readConfigByWords(s string) ([]impl.Leaf, int, bool) {
	if len(s) > mostSource {
		return nil, 0, false
	}
	c := configReading{state: "item"}
	for i := range len(s) {
		if !c.take(s[i]) {
			return nil, i, false
		}
	}
	if c.state != "item" || len(c.around) > 0 {
		return nil, len(s), false
	}
	slices.SortFunc(c.leaves, func(a, b impl.Leaf) int { return compareWays(a.Path, b.Path) })
	if !goodConfigByWords(c.leaves) {
		return nil, len(s), false
	}
	return c.leaves, 0, true
}

func lookAtConfigRead(t *testing.T, s string, want ...impl.Leaf) {
	t.Helper()
	if l, at, ok := impl.ReadConfig(s); !sameConfig(l, want) || at != 0 || !ok {
		t.Errorf("ReadConfig(%q) = %v, %d, %v, not %v", s, l, at, ok, want)
	}
}

func refusesConfigRead(t *testing.T, s string, want int) {
	t.Helper()
	if l, at, ok := impl.ReadConfig(s); len(l) != 0 || at != want || ok {
		t.Errorf("ReadConfig(%q) = %v, %d, %v, not at %d", s, l, at, ok, want)
	}
}

// readsByWords tells whether it was a configuration.
func readsByWords(t *testing.T, s string) bool {
	t.Helper()
	l, at, ok := readConfigByWords(s)
	if ok {
		lookAtConfigRead(t, s, l...)
	} else {
		refusesConfigRead(t, s, at)
	}
	return ok
}

func lookAtConfigText(t *testing.T, l []impl.Leaf, want string) {
	t.Helper()
	if got, ok := impl.ConfigText(l); got != want || !ok {
		t.Errorf("ConfigText(%v) = %q, %v, not %q", l, got, ok, want)
	}
}

func lookAtSet(t *testing.T, l []impl.Leaf, path []string, value string, want ...impl.Leaf) {
	t.Helper()
	if got, ok := impl.SetAt(l, path, value); !sameConfig(got, want) || !ok {
		t.Errorf("SetAt(%v, %q, %q) = %v, %v, not %v", l, path, value, got, ok, want)
	}
}

func refusesSet(t *testing.T, l []impl.Leaf, path []string, value string) {
	t.Helper()
	if got, ok := impl.SetAt(l, path, value); len(got) != 0 || ok {
		t.Errorf("SetAt(%d leaves, %.200q, %.200q) = %v, %v", len(l), path, value, got, ok)
	}
}

func lookAtDelete(t *testing.T, l []impl.Leaf, path []string, want ...impl.Leaf) {
	t.Helper()
	if got, ok := impl.DeleteAt(l, path); !sameConfig(got, want) || !ok {
		t.Errorf("DeleteAt(%v, %q) = %v, %v, not %v", l, path, got, ok, want)
	}
}

func refusesDelete(t *testing.T, l []impl.Leaf, path []string) {
	t.Helper()
	if got, ok := impl.DeleteAt(l, path); len(got) != 0 || ok {
		t.Errorf("DeleteAt(%d leaves, %.200q) = %v, %v", len(l), path, got, ok)
	}
}

func lookAtGet(t *testing.T, l []impl.Leaf, path []string, want string, wantOk bool) {
	t.Helper()
	if got, ok := impl.GetAt(l, path); got != want || ok != wantOk {
		t.Errorf("GetAt(%d leaves, %.200q) = %q, %v, not %q, %v", len(l), path, got, ok, want, wantOk)
	}
}

// lookAtUnder wants false where nothing is below.
func lookAtUnder(t *testing.T, l []impl.Leaf, path []string, want ...impl.Leaf) {
	t.Helper()
	if got, ok := impl.Under(l, path); !sameConfig(got, want) || ok != (len(want) > 0) {
		t.Errorf("Under(%d leaves, %.200q) = %v, %v, not %v", len(l), path, got, ok, want)
	}
}

func lookAtDiff(t *testing.T, a, b []impl.Leaf, want ...impl.Command) {
	t.Helper()
	if got, ok := impl.DiffOf(a, b); !sameCommands(got, want) || !ok {
		t.Errorf("DiffOf(%v, %v) = %v, %v, not %v", a, b, got, ok, want)
	}
}

func refusesDiff(t *testing.T, a, b []impl.Leaf) {
	t.Helper()
	if got, ok := impl.DiffOf(a, b); len(got) != 0 || ok {
		t.Errorf("DiffOf(%d leaves, %d leaves) = %v, %v", len(a), len(b), got, ok)
	}
}

func lookAtDo(t *testing.T, l []impl.Leaf, c []impl.Command, want ...impl.Leaf) {
	t.Helper()
	if got, ok := impl.DoCommands(l, c); !sameConfig(got, want) || !ok {
		t.Errorf("DoCommands(%v, %v) = %v, %v, not %v", l, c, got, ok, want)
	}
}

func refusesDo(t *testing.T, l []impl.Leaf, c []impl.Command) {
	t.Helper()
	if got, ok := impl.DoCommands(l, c); len(got) != 0 || ok {
		t.Errorf("DoCommands(%d leaves, %d commands) = %v, %v", len(l), len(c), got, ok)
	}
}

func lookAtCommandText(t *testing.T, c impl.Command, want string, wantOk bool) {
	t.Helper()
	if got, ok := impl.CommandText(c); got != want || ok != wantOk {
		t.Errorf("CommandText(%.200q) = %q, %v, not %q, %v", fmt.Sprint(c), got, ok, want, wantOk)
	}
}

// lookAtConfig asks of one configuration what the document promises.
func lookAtConfig(t *testing.T, l []impl.Leaf) {
	t.Helper()
	if !impl.GoodConfig(l) {
		t.Errorf("%v is not good", l)
	}
	lookAtDiff(t, l, l)
	lookAtDo(t, l, nil, l...)
	text := configTextByModel(configModelOf(l), "")
	if len(text) > mostSource {
		if got, ok := impl.ConfigText(l); got != "" || ok {
			t.Errorf("ConfigText of %d bytes = %q, %v", len(text), got, ok)
		}
		return
	}
	lookAtConfigText(t, l, text)
	lookAtConfigRead(t, text, l...)
}

// lookAtConfigs asks of two what is promised of what leads from one to the other one.
func lookAtConfigs(t *testing.T, a, b []impl.Leaf) {
	t.Helper()
	lookAtDiff(t, a, b, diffByModel(a, b)...)
	diff, _ := impl.DiffOf(a, b)
	lookAtDo(t, a, diff, b...)
	if sameConfig(a, b) != (len(diff) == 0) {
		t.Errorf("from %v to %v: %v", a, b, diff)
	}
}

// lookAtPathIn asks at one path all that may be asked, and done.
func lookAtPathIn(t *testing.T, l []impl.Leaf, path, value string) {
	t.Helper()
	way := wayOf(path)
	model := configModelOf(l)
	was, is := model[path]
	lookAtGet(t, l, way, was, is)
	lookAtUnder(t, l, way, model.under(path)...)
	if less := maps.Clone(model); less.remove(path) {
		lookAtDelete(t, l, way, less.leaves()...)
	} else {
		refusesDelete(t, l, way)
	}
	if model.set(path, value) {
		lookAtSet(t, l, way, value, model.leaves()...)
	} else {
		refusesSet(t, l, way, value)
	}
}

// smallConfigs has all configurations of two words by two, with two values; the words are such that bytes alone would put them otherwise.
func smallConfigs() [][]impl.Leaf {
	below := func(path string, models []configModel) []configModel {
		all := models
		for _, value := range []string{"1", "x"} {
			for _, m := range models {
				more := maps.Clone(m)
				more[path] = value
				all = append(all, more)
			}
		}
		return all
	}
	models := []configModel{{}}
	for _, first := range []string{"a", "a-"} {
		for _, path := range []string{first, first + " a", first + " a-"} {
			models = below(path, slices.Clip(models))
		}
	}
	var l [][]impl.Leaf
	for _, m := range models {
		if leaves := m.leaves(); goodConfigByWords(leaves) {
			l = append(l, leaves)
		}
	}
	return l
}

func smallWays() []string {
	var l []string
	eachRow([]string{"a", "a-"}, 3, func(path []string) {
		if len(path) > 0 {
			l = append(l, strings.Join(path, " "))
		}
	})
	return append(l, "a a a a a", "a- a- a- a- a-", "b", "-", "0")
}

// mixedWords has so few words that paths have many of them in common, or more.
func mixedWords(r *rand.Rand) []string {
	pool := []string{"a", "a-", "b", "-", "0", "9z", "ab", "a-b", "zzzzzzzz", "--------", "area-51", "z"}
	r.Shuffle(len(pool), func(i, j int) { pool[i], pool[j] = pool[j], pool[i] })
	return pool[:2+r.Intn(len(pool)-1)]
}

func mixedWay(words []string, r *rand.Rand) string {
	var path []string
	for range 1 + r.Intn(mostDepth) {
		path = append(path, words[r.Intn(len(words))])
	}
	return strings.Join(path, " ")
}

// mixedConfig changes a configuration by so many steps, of which some make leaves words with others below them, and the other way about.
func mixedConfig(from []impl.Leaf, words []string, steps int, r *rand.Rand) []impl.Leaf {
	m := configModelOf(from)
	for range steps {
		path := mixedWay(words, r)
		if r.Intn(10) == 0 {
			m.remove(path)
			continue
		}
		then := maps.Clone(m)
		if then.set(path, words[r.Intn(len(words))]) && (r.Intn(5) == 0 || len(then) > len(m)) {
			m = then
		}
	}
	return m.leaves()
}

// withOtherValues keeps the paths.
func withOtherValues(l []impl.Leaf, words []string, r *rand.Rand) []impl.Leaf {
	own := slices.Clone(l)
	for i := range own {
		if r.Intn(3) > 0 {
			own[i].Value = words[r.Intn(len(words))]
		}
	}
	return own
}

// topLeaves are so many, each of one word.
func topLeaves(many int) []impl.Leaf {
	var l []impl.Leaf
	for i := range many {
		l = append(l, impl.Leaf{Path: []string{fmt.Sprintf("w%06d", i)}, Value: "v"})
	}
	return l
}

// deepLeaves are so many, each alone below MaxDepth - 1 words of 8 bytes; each takes 103 bytes of a text.
func deepLeaves(many int) []impl.Leaf {
	var l []impl.Leaf
	for i := range many {
		first := fmt.Sprintf("deep%04d", i)
		l = append(l, impl.Leaf{Path: []string{first, "abcdefgh", "abcdefgh", "abcdefgh", "abcdefgh"}, Value: "abcdefgh"})
	}
	return l
}

// sizedConfig has a text of just so many bytes, in 989..1003.
func sizedConfig(bytes int) []impl.Leaf {
	l := deepLeaves(9) // 927 bytes
	l = append(l, leavesOf("x1234567=abcdefgh, x2345678=abcdefgh, x3456789=abcdefgh")...)
	rest := bytes - 927 - 57
	rest -= 4 // a byte of the word, the blank, the sign and the byte 10
	word := "z"
	for rest > longestWord {
		word, rest = word+"z", rest-1
	}
	return append(l, impl.Leaf{Path: []string{word}, Value: strings.Repeat("v", rest)})
}

func goodConfigs() [][]impl.Leaf {
	l := [][]impl.Leaf{
		nil,
		{},
		leavesOf("a=b"),
		leavesOf("-=-"),
		leavesOf("zzzzzzzz=99999999"),
		leavesOf("a b c d e=f"),
		leavesOf("a b=1, a-c=2"),
		leavesOf("a b c=1, a b-=2, a b-a=3, a- b=4, aa=5"),
		leavesOf("a a a a a=1, a a a a b=2, a a a b=3, a a b=4, a b=5, b=6"),
		leavesOf("version=0"),
		topLeaves(1),
		topLeaves(mostLeaves - 1),
		topLeaves(mostLeaves),
		deepLeaves(9),
		deepLeaves(mostLeaves),
		sizedConfig(mostSource),
		sizedConfig(mostSource + 1),
	}
	r := rand.New(rand.NewSource(150))
	for i := range 60 {
		l = append(l, mixedConfig(nil, mixedWords(r), 1+i*4, r))
	}
	return l
}

// badWords are none, most of them by one fault alone.
func badWords() []string {
	l := []string{"", "123456789", strings.Repeat("a", 100000), "A", "Z", "aB", "a b", " a", "a ", "a\n", "\n", "a{", "}", ";", "a;", "a.b", "a_b", "a/b", "+", ",", ":", "`", "@", "[", "\x00", "a\x00", "\x7f", "\x80", "\xff", "a\xffb", "é", "aé", "\uFFFD", "中", "a\u0301", "\U0001F600", "１", "ａ"}
	for b := range 256 {
		if word := string([]byte{byte(b)}); !strings.Contains("abcdefghijklmnopqrstuvwxyz0123456789-", word) {
			l = append(l, word, word+"bcdefgh", "abcdefg"+word, "abc"+word+"efgh")
		}
	}
	return l
}

func goodWords() []string {
	l := []string{"a", "-", "0", "zzzzzzzz", "--------", "00000000", "a-0", "abcdefgh", "ijklmnop", "qrstuvwx", "yz012345", "6789-"}
	for _, r := range "abcdefghijklmnopqrstuvwxyz0123456789-" {
		l = append(l, string(r), string(r)+"bcdefgh", "abcdefg"+string(r))
	}
	return l
}

// badWays are no paths, most of them by one fault alone.
func badWays() [][]string {
	l := [][]string{nil, {}, {"a", "b", "c", "d", "e", "f"}, {"a", "a", "a", "a", "a", "a"}, make([]string, 1), make([]string, mostDepth), make([]string, 100000), slices.Repeat([]string{"a"}, 100000)}
	for i, word := range badWords() {
		l = append(l, []string{word})
		path := []string{"a", "b", "c", "d", "e"}
		path[i%mostDepth] = word
		l = append(l, path)
	}
	for at := range mostDepth {
		path := []string{"a", "b", "c", "d", "e"}
		path[at] = ""
		l = append(l, path)
	}
	return l
}

// badConfigs are not good, most of them by one fault alone.
func badConfigs() map[string][]impl.Leaf {
	all := map[string][]impl.Leaf{
		"one more than may be":            topLeaves(mostLeaves + 1),
		"one more, all deep":              deepLeaves(mostLeaves + 1),
		"far too many":                    topLeaves(5000),
		"far too many zero ones":          make([]impl.Leaf, 100000),
		"a zero one":                      make([]impl.Leaf, 1),
		"falling":                         leavesOf("b=1, a=2"),
		"falling at the end":              leavesOf("a=1, c=2, b=3"),
		"falling at the beginning":        leavesOf("b=1, a=2, c=3"),
		"falling below":                   leavesOf("a b c=1, a b b=2"),
		"falling by words alone":          leavesOf("a-c=1, a b=2"),
		"falling by words alone, below":   leavesOf("x a-=1, x a a=2"),
		"two of one path":                 leavesOf("a=1, a=2"),
		"two alike":                       leavesOf("a=1, a=1"),
		"two of one path below":           leavesOf("a b c d e=1, a b c d e=2"),
		"two of one path at the end":      leavesOf("a=1, b=1, c=1, c=2"),
		"two of one path apart":           leavesOf("a=1, b=1, a=2"),
		"one within the one ahead":        leavesOf("a=1, a b=2"),
		"one within the one behind":       leavesOf("a b=1, a=2"),
		"one deep within":                 leavesOf("a=1, a b c d e=2"),
		"one within by its last word":     leavesOf("a b c d=1, a b c d e=2"),
		"one within, others ahead":        leavesOf("0=1, 1=2, a b=3, a b c=4"),
		"one within, others between":      leavesOf("a=1, a b=2, a c=3"),
		"one within, by bytes, apart":     leavesOf("a=1, a-=2, a-b=3, a b=4"),
		"one within, by bytes, in order":  leavesOf("a=1, a b=2, a-=3, a-b=4"),
		"one within the first, the last":  leavesOf("a=1, b=2, a c=3"),
		"one within, below, by bytes":     leavesOf("x a=1, x a b=2, x a-=3"),
		"one within, below, out of order": leavesOf("x a=1, x a-=3, x a b=2"),
		"among many":                      append(topLeaves(mostLeaves-1), leafOf("w000028 v=1")),
	}
	for i, path := range badWays() {
		name := fmt.Sprintf("path %d %.40q: ", i, path)
		bad := impl.Leaf{Path: path, Value: "v"}
		all[name+"alone"] = []impl.Leaf{bad}
		all[name+"first"] = []impl.Leaf{bad, leafOf("zzzzzzzz=1")}
		all[name+"last"] = []impl.Leaf{leafOf("-=1"), bad}
	}
	for i, value := range badWords() {
		name := fmt.Sprintf("value %d %.40q", i, value)
		l := leavesOf("a b=1, c=2, d e f=3")
		l[i%3].Value = value
		all[name] = l
		all[name+" alone"] = []impl.Leaf{{Path: []string{"a"}, Value: value}}
	}
	return all
}

func TestLimitsOfConfigurationsAreAsSaid(t *testing.T) {
	if impl.MaxLeaves != mostLeaves || impl.MaxDepth != mostDepth || impl.MaxSource != mostSource {
		t.Error(impl.MaxLeaves, impl.MaxDepth, impl.MaxSource)
	}
}

func TestConfigurationsAreGoodByTheirWords(t *testing.T) {
	for _, l := range slices.Concat(goodConfigs(), smallConfigs()) {
		if !goodConfigByWords(l) || !impl.GoodConfig(l) {
			t.Errorf("%v is not good", l)
		}
	}
	for name, l := range badConfigs() {
		if impl.GoodConfig(l) {
			t.Errorf("%s: is good", name)
		}
	}
	for many := range mostLeaves + 3 {
		if got := impl.GoodConfig(topLeaves(many)); got != (many <= mostLeaves) {
			t.Errorf("%d leaves: %v", many, got)
		}
	}
}

func TestPathsFromNoWordToOneMore(t *testing.T) {
	for many := range mostDepth + 3 {
		path := slices.Repeat([]string{"w"}, many)
		good := many >= 1 && many <= mostDepth
		if got := impl.GoodConfig([]impl.Leaf{{Path: path, Value: "v"}}); got != good {
			t.Errorf("%d words: %v", many, got)
		}
		if _, ok := impl.SetAt(nil, path, "v"); ok != good {
			t.Errorf("SetAt of %d words: %v", many, ok)
		}
	}
}

// TestEachByteOfWords asks at each place of words, of paths and as values.
func TestEachByteOfWords(t *testing.T) {
	isGood := func(word string, want bool) {
		t.Helper()
		for _, leaf := range []impl.Leaf{
			{Path: []string{word}, Value: "v"},
			{Path: []string{"a", word}, Value: "v"},
			{Path: []string{word, "a", "b", "c", "d"}, Value: "v"},
			{Path: []string{"a", "b", "c", "d", word}, Value: "v"},
			{Path: []string{"a"}, Value: word},
		} {
			if got := impl.GoodConfig([]impl.Leaf{leaf}); got != want {
				t.Errorf("%.200q: %v", fmt.Sprint(leaf), got)
			}
			if _, ok := impl.SetAt(nil, leaf.Path, leaf.Value); ok != want {
				t.Errorf("SetAt of %.200q: %v", fmt.Sprint(leaf), ok)
			}
			if _, ok := impl.CommandText(impl.Command{Set: true, Path: leaf.Path, Value: leaf.Value}); ok != want {
				t.Errorf("CommandText of %.200q: %v", fmt.Sprint(leaf), ok)
			}
		}
	}
	for b := range 256 {
		one := string([]byte{byte(b)})
		want := 'a' <= b && b <= 'z' || '0' <= b && b <= '9' || b == '-'
		for _, word := range []string{one, "a" + one, one + "a", "abc" + one + "efgh", one + "bcdefgh", "abcdefg" + one} {
			isGood(word, want)
		}
	}
	for long := range 12 {
		isGood(strings.Repeat("a", long), long >= 1 && long <= longestWord)
	}
	for _, word := range badWords() {
		isGood(word, false)
	}
	for _, word := range goodWords() {
		isGood(word, true)
	}
}

func TestGoodConfigOfAllSmallOrders(t *testing.T) {
	pool := leavesOf("a=1, a a=1, a a-=1, a-=1, a- a=1, aa=1, -=1")
	eachRow(pool, 4, func(l []impl.Leaf) {
		if got := impl.GoodConfig(l); got != goodConfigByWords(l) {
			t.Errorf("%v: %v", l, got)
		}
	})
}

func TestSmallConfigurationsComeBack(t *testing.T) {
	all := smallConfigs()
	if len(all) != 121 {
		t.Fatal(len(all))
	}
	for _, a := range all {
		lookAtConfig(t, a)
		for _, b := range all {
			lookAtConfigs(t, a, b)
		}
	}
}

func TestManyConfigurationsComeBack(t *testing.T) {
	r := rand.New(rand.NewSource(151))
	counts := map[string]int{}
	for i := range 2500 {
		words := mixedWords(r)
		a := mixedConfig(nil, words, r.Intn(120), r)
		b := mixedConfig(a, words, r.Intn(40), r)
		switch i % 4 {
		case 0:
			b = mixedConfig(nil, words, r.Intn(120), r)
		case 1:
			b = withOtherValues(a, words, r)
		}
		lookAtConfig(t, a)
		lookAtConfig(t, b)
		lookAtConfigs(t, a, b)
		lookAtConfigs(t, b, a)
		countConfigs(counts, a, b)
	}
	for _, kind := range []string{"full", "a text too long", "a leaf becomes a word", "values alone", "more than 30 commands"} {
		if counts[kind] < 50 {
			t.Error("not met:", kind, counts)
		}
	}
}

// countConfigs tells what kinds of pairs were met.
func countConfigs(counts map[string]int, a, b []impl.Leaf) {
	if len(a) == mostLeaves {
		counts["full"]++
	}
	if len(configTextByModel(configModelOf(a), "")) > mostSource {
		counts["a text too long"]++
	}
	diff := diffByModel(a, b)
	if len(diff) > 30 {
		counts["more than 30 commands"]++
	}
	if len(diff) > 0 && !slices.ContainsFunc(diff, func(c impl.Command) bool { return !c.Set }) && len(a) == len(b) {
		counts["values alone"]++
	}
	for _, leaf := range a {
		if below := configModelOf(b).under(strings.Join(leaf.Path, " ")); len(below) > 0 {
			counts["a leaf becomes a word"]++
		}
	}
}

func TestGoodConfigurationsComeBack(t *testing.T) {
	all := goodConfigs()
	for _, a := range all {
		lookAtConfig(t, a)
		for _, b := range all {
			lookAtConfigs(t, a, b)
		}
	}
}

func TestConfigTextsThatAreKnown(t *testing.T) {
	for _, c := range []struct{ leaves, text string }{
		{"", ""},
		{"a=b", "a b;\n"},
		{"version=0", "version 0;\n"},
		{"a=1, b=2", "a 1;\nb 2;\n"},
		{"a b=1", "a {\n  b 1;\n}\n"},
		{"a b=1, a c=2", "a {\n  b 1;\n  c 2;\n}\n"},
		{"a b=1, b b=2", "a {\n  b 1;\n}\nb {\n  b 2;\n}\n"},
		{"a b=1, a-c=2", "a {\n  b 1;\n}\na-c 2;\n"},
		{"a b c=1, a d=2", "a {\n  b {\n    c 1;\n  }\n  d 2;\n}\n"},
		{"a b=1, a c d=2, e=3", "a {\n  b 1;\n  c {\n    d 2;\n  }\n}\ne 3;\n"},
		{"a b c=1, b b c=2", "a {\n  b {\n    c 1;\n  }\n}\nb {\n  b {\n    c 2;\n  }\n}\n"},
		{"a b c=1, a c c=2", "a {\n  b {\n    c 1;\n  }\n  c {\n    c 2;\n  }\n}\n"},
		{"a b c=1, d=2", "a {\n  b {\n    c 1;\n  }\n}\nd 2;\n"},
		{"a a a a a=a", "a {\n  a {\n    a {\n      a {\n        a a;\n      }\n    }\n  }\n}\n"},
		{"a b c d e=1, a b c d f=2", "a {\n  b {\n    c {\n      d {\n        e 1;\n        f 2;\n      }\n    }\n  }\n}\n"},
		{"a b c d e=1, a b c e e=2", "a {\n  b {\n    c {\n      d {\n        e 1;\n      }\n      e {\n        e 2;\n      }\n    }\n  }\n}\n"},
		{"a b c d e=1, a b d d e=2", "a {\n  b {\n    c {\n      d {\n        e 1;\n      }\n    }\n    d {\n      d {\n        e 2;\n      }\n    }\n  }\n}\n"},
		{"a b c d e=1, b=2", "a {\n  b {\n    c {\n      d {\n        e 1;\n      }\n    }\n  }\n}\nb 2;\n"},
	} {
		lookAtConfigText(t, leavesOf(c.leaves), c.text)
		lookAtConfigRead(t, c.text, leavesOf(c.leaves)...)
	}
}

// TestWordsInCommonOnEachDepth goes through all ways in which two and three leaves have words in common.
func TestWordsInCommonOnEachDepth(t *testing.T) {
	path := func(long, common int, word string) string {
		own := slices.Repeat([]string{"c"}, common)
		return strings.Join(append(own, slices.Repeat([]string{word}, long-common)...), " ")
	}
	for long := 1; long <= mostDepth; long++ {
		for other := 1; other <= mostDepth; other++ {
			for common := range min(long, other) {
				m := configModel{path(long, common, "d"): "1", path(other, common, "e"): "2"}
				lookAtConfig(t, m.leaves())
				for third := range min(long, other) {
					m[path(third+1, third, "f")] = "3"
					if l := m.leaves(); goodConfigByWords(l) {
						lookAtConfig(t, l)
					}
					delete(m, path(third+1, third, "f"))
				}
			}
		}
	}
}

func TestConfigTextOfMaxSourceBytesAndOneMore(t *testing.T) {
	for bytes := mostSource - 11; bytes <= mostSource+3; bytes++ {
		l := sizedConfig(bytes)
		text := configTextByModel(configModelOf(l), "")
		if len(text) != bytes || !impl.GoodConfig(l) {
			t.Fatal(len(text), bytes, l)
		}
		got, ok := impl.ConfigText(l)
		if bytes > mostSource {
			if got != "" || ok {
				t.Errorf("%d bytes: %q, %v", bytes, got, ok)
			}
			refusesConfigRead(t, text, 0)
			continue
		}
		if got != text || !ok {
			t.Errorf("%d bytes: %q, %v", bytes, got, ok)
		}
		lookAtConfigRead(t, text, l...)
	}
}

// TestATextThatIsReadMayBeShorterThanItsOwn: what is read is a configuration also where ConfigText has no room for it.
func TestATextThatIsReadMayBeShorterThanItsOwn(t *testing.T) {
	l := deepLeaves(10)
	text := ""
	for _, leaf := range l {
		text += strings.Join(leaf.Path, "{")
		text = text[:len(text)-len("{abcdefgh")] + "{abcdefgh " + leaf.Value + ";}}}}"
	}
	if len(text) > mostSource {
		t.Fatal(len(text))
	}
	lookAtConfigRead(t, text, l...)
	if got, ok := impl.ConfigText(l); got != "" || ok {
		t.Error(got, ok)
	}
}

func isWordPiece(piece string) bool {
	return len(piece) > 0 && strings.Trim(piece, "{};") != ""
}

// piecesOf cuts a configuration into words and signs, its leaves in any order, closing what is open sooner or later, with words opened for nothing between.
func piecesOf(l []impl.Leaf, spare int, r *rand.Rand) []string {
	var pieces, open []string
	empty := func() {
		for r.Intn(10) < spare {
			words := []string{"a", "b", "zz", "123456789", strings.Repeat("long", 5)}
			deep := 1 + r.Intn(4)
			for range deep {
				pieces = append(pieces, words[r.Intn(len(words))], "{")
			}
			pieces = append(pieces, slices.Repeat([]string{"}"}, deep)...)
		}
	}
	closeTo := func(depth int) {
		for len(open) > depth {
			empty()
			open, pieces = open[:len(open)-1], append(pieces, "}")
		}
	}
	for _, i := range r.Perm(len(l)) {
		around := l[i].Path[:len(l[i].Path)-1]
		common := 0
		for common < min(len(open), len(around)) && open[common] == around[common] {
			common++
		}
		closeTo(r.Intn(common + 1))
		empty()
		for _, word := range around[len(open):] {
			open, pieces = append(open, word), append(pieces, word, "{")
			empty()
		}
		pieces = append(pieces, l[i].Path[len(around)], l[i].Value, ";")
	}
	closeTo(0)
	empty()
	return pieces
}

// joined puts blanks and bytes 10 between pieces, at most so many; two words have at least one between them.
func joined(pieces []string, most int, r *rand.Rand) string {
	gap := func(least int) string {
		s := ""
		for range least + r.Intn(most+1) {
			s += []string{" ", "\n"}[r.Intn(2)]
		}
		return s
	}
	text := gap(0)
	for i, piece := range pieces {
		least := 0
		if i > 0 && isWordPiece(pieces[i-1]) && isWordPiece(piece) {
			least = 1
		}
		text += gap(least) + piece
	}
	return text + gap(0)
}

func TestTextsInAnyOrderAndWithAnyGaps(t *testing.T) {
	r := rand.New(rand.NewSource(152))
	read := 0
	for range 6000 {
		words := mixedWords(r)
		l := mixedConfig(nil, words, r.Intn(30), r)
		pieces := piecesOf(l, r.Intn(4), r)
		for _, most := range []int{0, 1, 4} {
			if text := joined(pieces, most, r); len(text) <= mostSource {
				lookAtConfigRead(t, text, l...)
				if !readsByWords(t, text) {
					t.Fatalf("%q is none by the words", text)
				}
				read++
			}
		}
	}
	for _, l := range smallConfigs() {
		for range 20 {
			lookAtConfigRead(t, joined(piecesOf(l, 2, r), r.Intn(4), r), l...)
		}
	}
	if read < 9000 {
		t.Error(read)
	}
}

func TestTextsOfConfigurationsThatAreKnown(t *testing.T) {
	for _, c := range []struct{ text, leaves string }{
		{"", ""},
		{" ", ""},
		{"\n", ""},
		{" \n \n\n  ", ""},
		{"a b;", "a=b"},
		{"a b ;", "a=b"},
		{"a\nb\n;", "a=b"},
		{"\n a \n b \n ; \n ", "a=b"},
		{"b 2;a 1;", "a=1, b=2"},
		{"a{b 1;}", "a b=1"},
		{"a {b 1;}", "a b=1"},
		{"a\n\n{b 1;}", "a b=1"},
		{"a{ b 1;}", "a b=1"},
		{"a{b 1; }", "a b=1"},
		{"a{b 1;} \n", "a b=1"},
		{"a{b{c{d{e 1;}}}}", "a b c d e=1"},
		{"a{c 1;}a{b 2;}", "a b=2, a c=1"},
		{"a{c 1;}b 3;a{b 2;}", "a b=2, a c=1, b=3"},
		{"a{b{c 1;}d 2;b{e 3;}}a{b{f 4;}}", "a b c=1, a b e=3, a b f=4, a d=2"},
		{"a{}", ""},
		{"a{}b{}", ""},
		{"a{}a{}", ""},
		{"a { \n } ", ""},
		{"a{b{}c{}}", ""},
		{"a{b{c{d{e{}}}}}", ""},
		{"a{b{c{d{e{f{g{}}}}}}}", ""},
		{"a{b{c{d{f{}e 1;}}}}", "a b c d e=1"},
		{"a{b{c{d{e{f{}}}}}}", ""},
		{"123456789{}", ""},
		{"a{123456789{}b 1;}", "a b=1"},
		{"123456789{b{}}", ""},
		{"123456789{123456789{}}a 1;", "a=1"},
		{"a{}a 1;", "a=1"},
		{"a 1;a{}", "a=1"},
		{"a{b{}}a 1;", "a=1"},
		{"a{b 1;b{}}a{}", "a b=1"},
		{"a{b{}b 1;}", "a b=1"},
		{"- -;", "-=-"},
		{"0 0;", "0=0"},
		{"set delete;", "set=delete"},
		{"12345678 12345678;", "12345678=12345678"},
	} {
		lookAtConfigRead(t, c.text, leavesOf(c.leaves)...)
	}
}

func TestTextsThatAreRefused(t *testing.T) {
	for text, at := range map[string]int{
		"}":             0,
		" }":            1,
		"a{}}":          3,
		"a 1;}":         4,
		"a{b 1;}}":      7,
		"a{b{}}}a 1;":   6,
		"{":             0,
		"{}":            0,
		";":             0,
		"a{{":           2,
		"a{;":           2,
		"a;":            1,
		"a ;":           2,
		"a}":            1,
		"a }":           2,
		"a{b}":          3,
		"a{b }":         4,
		"a{b 1}":        5,
		"a{b 1 }":       6,
		"a 1}":          3,
		"a 1{":          3,
		"a 1 {":         4,
		"a 1 2;":        4,
		"a b c;":        4,
		"a b c{}":       4,
		"a\nb\nc;":      4,
		"a 1;;":         4,
		"a 1; ;":        5,
		"a{};":          3,
		"a{} ;":         4,
		"a 1,":          3,
		"A 1;":          0,
		"aB 1;":         1,
		"a 1B;":         3,
		"a\t1;":         1,
		"a\r\n1;":       1,
		"a=1;":          1,
		"a 1;\x00":      4,
		"\x00":          0,
		"\xff":          0,
		"\uFEFFa 1;":    0,
		"é":             0,
		"aé 1;":         1,
		"a é;":          2,
		"a 1é;":         3,
		"a 1;é":         4,
		"a\u00a01;":     1,
		"a 1\u2028;":    3,
		"a \uFFFD;":     2,
		"a{\xe9}":       2,
		"a # b\n;":      2,
		"a// b\n;":      1,
		"a \"b\";":      2,
		"a {} } b c d;": 5,
		"a b c d":       4,
		"a{b{c{d e f":   10,
	} {
		refusesConfigRead(t, text, at)
		if _, want, ok := readConfigByWords(text); want != at || ok {
			t.Errorf("%q is refused at %d by the words, %v", text, want, ok)
		}
	}
}

func TestTextsThatEndTooEarly(t *testing.T) {
	for _, text := range []string{"a", "a ", "a\n", "ab", "a 1", "a 1 ", "a 1\n", "a 12", "a{", "a{ ", "a{\n", "a{b", "a{b ", "a{b 1", "a{b 1 ", "a{b 1;", "a{b 1; ", "a{b{}", "a{b{} ", "a{b{c 1;}", "a 1;b", "a 1; b 2", "a{}b", "a{}b{", "a 1;a{", "123456789", "a 123456789", "123456789{", "a{b{c{d{e{f{", "a 1;a 1"} {
		refusesConfigRead(t, text, len(text))
	}
	for _, whole := range []string{"area {\n  id 1;\n  peer {\n    asn 7 ;\n  }\n}\n", "a{b{c{d{e{f{g{}}}}}}}", "  long-one \n 12345678\n;"} {
		last := strings.LastIndexAny(whole, "};")
		for at := range last + 1 {
			text := whole[:at]
			if strings.TrimSpace(text) == "" {
				lookAtConfigRead(t, text)
				continue
			}
			refusesConfigRead(t, text, at)
		}
		if _, _, ok := impl.ReadConfig(whole); !ok {
			t.Errorf("%q is refused", whole)
		}
	}
}

func sampleTexts() []string {
	return []string{
		"a {\n  b- 1;c{}\n}\nd2 x ;\n",
		"a{b{c{d{e 1;f 2;}}}}",
		" \n10{ }x\ny\n;z{y 0;}z{w{-- zz;}}",
		"a 1;a 2;",
		"a 1;a{b 2;}",
		"123456789 a;b 123456789;",
		"a{b{c{d{e{f 1;}}}}}",
	}
}

// TestEachByteThatCannotStand puts what stands in no text at each place of texts, also ahead of faults that no byte tells.
func TestEachByteThatCannotStand(t *testing.T) {
	var never []string
	for b := range 256 {
		if kindOfByte(byte(b)) == "none" {
			never = append(never, string([]byte{byte(b)}))
		}
	}
	if len(never) != 256-37-5 {
		t.Fatal(len(never))
	}
	never = append(never, "é", "ÿ", "\u0080", "\u2028", "中", "\uFFFD", "\U0001F600", "\U0010FFFF", "\xc3", "\xe4\xb8", "\xf0\x9f", "\xed\xa0\x80", "\xc0\x80", "\x80\x80", "１")
	for _, text := range sampleTexts() {
		for at := range len(text) + 1 {
			for _, bad := range never {
				refusesConfigRead(t, text[:at]+bad, at)
				refusesConfigRead(t, text[:at]+bad+text[at:], at)
				if at < len(text) {
					refusesConfigRead(t, text[:at]+bad+text[at+1:], at)
				}
				refusesConfigRead(t, text[:at]+bad+"}}}};;;{{{{é", at)
			}
		}
	}
}

// TestEachByteAtEachPlace holds what other bytes make of texts against the words: each in the place of one, put between two, and one taken out.
func TestEachByteAtEachPlace(t *testing.T) {
	good := 0
	count := func(text string) {
		t.Helper()
		if readsByWords(t, text) {
			good++
		}
	}
	for _, text := range sampleTexts() {
		for at := range len(text) + 1 {
			for b := range 256 {
				one := string([]byte{byte(b)})
				count(text[:at] + one + text[at:])
				if at < len(text) {
					count(text[:at] + one + text[at+1:])
				}
			}
			if at < len(text) {
				count(text[:at] + text[at+1:])
			}
			count(text[:at])
			count(text[at:])
		}
	}
	if good < 1000 {
		t.Error(good)
	}
}

func TestAllShortTexts(t *testing.T) {
	good := 0
	for _, bytes := range []string{"a {};", "ab\n;{}", "a\n}; {?"} {
		most := 8 - len(bytes)/6
		if len(bytes) == 7 {
			most = 6
		}
		eachRow([]byte(bytes), most, func(text []byte) {
			if readsByWords(t, string(text)) {
				good++
			}
		})
	}
	if good < 1000 {
		t.Error(good)
	}
}

func TestPiecesInAnyOrder(t *testing.T) {
	r := rand.New(rand.NewSource(153))
	pieces := []string{"a", "b-", "123456789", "{", "{", "}", "}", ";", ";", " ", " ", "\n", "a 1;", "a 1;", "b 2;", "c{", "a{", "a{}", "a{b 2;}", "A", "\xff"}
	good, refused := 0, map[bool]int{}
	for range 150000 {
		text := ""
		for range r.Intn(14) {
			text += pieces[r.Intn(len(pieces)-r.Intn(3))]
		}
		if readsByWords(t, text) {
			good++
		} else {
			_, at, _ := readConfigByWords(text)
			refused[at == len(text)]++
		}
	}
	if good < 3000 || refused[true] < 3000 || refused[false] < 3000 {
		t.Error(good, refused)
	}
}

// TestWhatCouldStandButIsNoConfiguration: the place is the text's length.
func TestWhatCouldStandButIsNoConfiguration(t *testing.T) {
	many := func(n int) string {
		text := ""
		for i := range n {
			text += fmt.Sprintf("w%d v;", i)
		}
		return text
	}
	for _, text := range []string{
		"a 1;a 2;",
		"a 1;a 1;",
		"a 1;b 2;a 3; ",
		"a{b 1;b 2;}",
		"a{b 1;}a{b 1;}",
		"a{b 1;}c 2;a{b 3;}\n",
		"a 1;a{b 2;}",
		"a{b 2;}a 1;",
		"a{b 1;b{c 2;}}",
		"a{b{c{d{e 1;}}}}a 1;",
		"a 1;a-{b 2;}a{c 3;}",
		"a{b{c{d{e{f 1;}}}}}",
		"a{b{c{d{e{f 1;}}}}}g 1;",
		"a{b{c{d{e{f{g{h 1;}}}}}}}",
		"123456789 1;",
		"a{123456789 1;}",
		"123456789{a 1;}",
		"a{123456789{b 1;}}",
		"a 123456789;",
		"a{b 123456789;}c 1;",
		strings.Repeat("a", 500) + " 1;",
		"a " + strings.Repeat("a", 500) + ";",
		many(mostLeaves + 1),
		many(mostLeaves+1) + "\n \n",
		many(100),
		strings.Repeat("a 1;", 250),
	} {
		refusesConfigRead(t, text, len(text))
	}
	for _, n := range []int{1, mostLeaves - 1, mostLeaves} {
		if l, at, ok := impl.ReadConfig(many(n)); len(l) != n || at != 0 || !ok {
			t.Errorf("%d leaves: %v, %d, %v", n, l, at, ok)
		}
	}
	lookAtConfigRead(t, "a{b{c{d{e 1;}}}}", leafOf("a b c d e=1"))
	lookAtConfigRead(t, "12345678 12345678;", leafOf("12345678=12345678"))
}

// TestAFaultThatAByteTellsIsToldAheadOfOthers: what is no configuration is told only where all could stand.
func TestAFaultThatAByteTellsIsToldAheadOfOthers(t *testing.T) {
	for _, ahead := range []string{"a 1;a 2;", "123456789 1;", "a 123456789;", "a 1;a{b 2;}", "a{b{c{d{e{f 1;}}}}}"} {
		for _, bad := range []string{"}", "{", ";", "A", "\x00", "\xff", "b;", "b}", "b 1}", "b 1 c"} {
			text := ahead + bad
			_, at, _ := readConfigByWords(text)
			if at < len(ahead) || at == len(text) {
				t.Fatal(text, at)
			}
			refusesConfigRead(t, text, at)
			refusesConfigRead(t, text+" a 1;", at)
		}
	}
}

func TestReadConfigOfMaxSourceBytesAndOneMore(t *testing.T) {
	for _, whole := range []string{"a 1;", "a{b 1;}"} {
		l, _, _ := impl.ReadConfig(whole)
		for _, gap := range []string{" ", "\n"} {
			for _, many := range []int{mostSource - 1, mostSource, mostSource + 1, mostSource + 2, 100000} {
				pad := strings.Repeat(gap, many-len(whole))
				for _, text := range []string{whole + pad, pad + whole, strings.Replace(whole, ";", pad+";", 1)} {
					if many > mostSource {
						refusesConfigRead(t, text, 0)
					} else {
						lookAtConfigRead(t, text, l...)
					}
				}
			}
		}
	}
	gaps := strings.Repeat(" ", mostSource)
	lookAtConfigRead(t, gaps)
	refusesConfigRead(t, gaps+" ", 0)
	refusesConfigRead(t, gaps[1:]+"}", mostSource-1)
	refusesConfigRead(t, gaps[1:]+"a", mostSource)
	refusesConfigRead(t, gaps+"}", 0)
	refusesConfigRead(t, gaps+"a", 0)
	refusesConfigRead(t, "}"+gaps, 0)
	refusesConfigRead(t, "a}"+gaps, 0)
	refusesConfigRead(t, strings.Repeat("a", mostSource), mostSource)
	refusesConfigRead(t, strings.Repeat("a", mostSource+1), 0)
	refusesConfigRead(t, strings.Repeat("a{", mostSource/2), mostSource)
	lookAtConfigRead(t, strings.Repeat("a{", 333)+strings.Repeat("}", 333))
	refusesConfigRead(t, strings.Repeat("a{", 333)+strings.Repeat("}", 334), 999)
	refusesConfigRead(t, strings.Repeat("a{", 332)+strings.Repeat("}", 331), 995)
	refusesConfigRead(t, strings.Repeat("a{", 1<<20), 0)
	refusesConfigRead(t, strings.Repeat("\xff", 1<<20), 0)
}

func TestSetAt(t *testing.T) {
	for _, c := range []struct{ leaves, path, value, want string }{
		{"", "a", "1", "a=1"},
		{"", "a b c d e", "1", "a b c d e=1"},
		{"a=1", "a", "2", "a=2"},
		{"a=1", "a", "1", "a=1"},
		{"a b=1, c=2", "a b", "3", "a b=3, c=2"},
		{"b=1, d=2", "a", "3", "a=3, b=1, d=2"},
		{"b=1, d=2", "c", "3", "b=1, c=3, d=2"},
		{"b=1, d=2", "e", "3", "b=1, d=2, e=3"},
		{"a b=1, a d=2", "a c", "3", "a b=1, a c=3, a d=2"},
		{"a b=1", "a-", "2", "a b=1, a-=2"},
		{"a-=1", "a b", "2", "a b=2, a-=1"},
		{"a b=1", "a", "2", "a=2"},
		{"a b=1, a c=2, a d e=3", "a", "4", "a=4"},
		{"0=9, a b=1, a c d=2, a- b=3, aa=4", "a", "5", "0=9, a=5, a- b=3, aa=4"},
		{"a b c d=1, a b c e=2, a c=3", "a b", "4", "a b=4, a c=3"},
		{"a=1", "a b", "2", "a b=2"},
		{"a=1", "a b c d e", "2", "a b c d e=2"},
		{"a=1, a-=2, aa=3", "a b", "4", "a b=4, a-=2, aa=3"},
		{"a b=1, a c=2", "a b c", "3", "a b c=3, a c=2"},
		{"a b c d=1", "a b c d e", "2", "a b c d e=2"},
		{"ab=1", "a", "2", "a=2, ab=1"},
		{"a=1", "ab", "2", "a=1, ab=2"},
		{"a b=1, b=2", "b b", "3", "a b=1, b b=3"},
	} {
		lookAtSet(t, leavesOf(c.leaves), wayOf(c.path), c.value, leavesOf(c.want)...)
	}
}

func TestSetAtOfMaxLeavesAndOneMore(t *testing.T) {
	full := topLeaves(mostLeaves)
	for _, path := range []string{"a", "w000003a", "x", "w a"} {
		refusesSet(t, full, wayOf(path), "1")
		lookAtPathIn(t, full[1:], path, "1")
		if then, ok := impl.SetAt(full[1:], wayOf(path), "1"); len(then) != mostLeaves || !ok {
			t.Errorf("%q: %d leaves, %v", path, len(then), ok)
		}
	}
	for _, path := range []string{"w000000", "w000029", "w000007 a", "w000007 a b c d"} {
		lookAtPathIn(t, full, path, "1")
		if then, ok := impl.SetAt(full, wayOf(path), "1"); len(then) != mostLeaves || !ok {
			t.Errorf("%q: %d leaves, %v", path, len(then), ok)
		}
	}
	below := append(leavesOf("a b=1"), full[1:]...)
	lookAtSet(t, below, wayOf("a"), "2", append(leavesOf("a=2"), full[1:]...)...)
	refusesSet(t, below, wayOf("a c"), "2")
	more := append(leavesOf("a b=1, a c=2, a d=3"), full[3:]...)
	lookAtSet(t, more, wayOf("a"), "2", append(leavesOf("a=2"), full[3:]...)...)
	refusesSet(t, more, wayOf("b"), "2")
}

func TestDeleteAt(t *testing.T) {
	for _, c := range []struct{ leaves, path, want string }{
		{"a=1", "a", ""},
		{"a=1, b=2", "a", "b=2"},
		{"a=1, b=2", "b", "a=1"},
		{"a=1, b=2, c=3", "b", "a=1, c=3"},
		{"a b=1", "a", ""},
		{"a b=1, a c d=2, b=3", "a", "b=3"},
		{"a b=1, a c d=2, b=3", "a c", "a b=1, b=3"},
		{"a b=1, a c d=2, b=3", "a c d", "a b=1, b=3"},
		{"a b=1, a- b=2, ab=3", "a", "a- b=2, ab=3"},
		{"a b c d e=1, a b c d f=2", "a b c d e", "a b c d f=2"},
		{"a b c d e=1, a b c d f=2", "a b c d", ""},
	} {
		lookAtDelete(t, leavesOf(c.leaves), wayOf(c.path), leavesOf(c.want)...)
	}
	for _, c := range []struct{ leaves, path string }{
		{"", "a"},
		{"a=1", "b"},
		{"a=1", "a b"},
		{"a=1", "a b c d e"},
		{"a b=1", "b"},
		{"a b=1", "a c"},
		{"a b=1", "a b c"},
		{"ab=1", "a"},
		{"a=1", "ab"},
		{"a bc=1", "a b"},
		{"a- b=1", "a"},
		{"a=1, b=2", "a b"},
	} {
		refusesDelete(t, leavesOf(c.leaves), wayOf(c.path))
	}
	full := topLeaves(mostLeaves)
	lookAtDelete(t, full, wayOf("w000029"), full[:mostLeaves-1]...)
	lookAtDelete(t, deepLeaves(mostLeaves), wayOf("deep0000 abcdefgh"), deepLeaves(mostLeaves)[1:]...)
}

func TestGetAtAndUnder(t *testing.T) {
	l := leavesOf("a b c=1, a b d e=2, a f=3, a- b=4, g=5")
	for path, want := range map[string]string{"a b c": "1", "a b d e": "2", "a f": "3", "a- b": "4", "g": "5"} {
		lookAtGet(t, l, wayOf(path), want, true)
		lookAtUnder(t, l, wayOf(path))
	}
	for path, want := range map[string]string{"a": "b c=1, b d e=2, f=3", "a b": "c=1, d e=2", "a b d": "e=2", "a-": "b=4"} {
		lookAtGet(t, l, wayOf(path), "", false)
		lookAtUnder(t, l, wayOf(path), leavesOf(want)...)
	}
	for _, path := range []string{"g h", "a b c d", "a f g h i", "b", "a c", "a b e", "f", "ab", "a-b", "a b d e f", "-", "c"} {
		lookAtGet(t, l, wayOf(path), "", false)
		lookAtUnder(t, l, wayOf(path))
	}
	for _, path := range [][]string{nil, {}, {""}, {"", "a"}, {"a", ""}} {
		lookAtGet(t, l, path, "", false)
		lookAtUnder(t, l, path)
	}
	for _, path := range []string{"a", "a b", "a b c d e"} {
		lookAtGet(t, nil, wayOf(path), "", false)
		lookAtUnder(t, nil, wayOf(path))
	}
	deep := leavesOf("a b c d e=1, a b c d f=2")
	for i, want := range []string{"b c d e=1, b c d f=2", "c d e=1, c d f=2", "d e=1, d f=2", "e=1, f=2"} {
		lookAtUnder(t, deep, wayOf("a b c d e")[:i+1], leavesOf(want)...)
	}
}

// TestAllPathsInSmallConfigurations asks each of them at each path.
func TestAllPathsInSmallConfigurations(t *testing.T) {
	for _, l := range smallConfigs() {
		for _, path := range smallWays() {
			lookAtPathIn(t, l, path, "1")
			lookAtPathIn(t, l, path, "zz")
		}
	}
}

func TestManyPathsInManyConfigurations(t *testing.T) {
	r := rand.New(rand.NewSource(154))
	counts := map[string]int{}
	for range 3000 {
		words := mixedWords(r)
		l := mixedConfig(nil, words, r.Intn(200), r)
		for range 8 {
			path := mixedWay(words, r)
			if len(l) > 0 && r.Intn(2) == 0 {
				some := l[r.Intn(len(l))].Path
				path = strings.Join(some[:1+r.Intn(len(some))], " ")
			}
			lookAtPathIn(t, l, path, words[0])
			m := configModelOf(l)
			if before := len(m); before == mostLeaves {
				counts[fmt.Sprint("full, set: ", m.set(path, "1"))]++
			} else if m.set(path, "1"); len(m) < before {
				counts["several go"]++
			}
		}
	}
	for _, kind := range []string{"full, set: true", "full, set: false", "several go"} {
		if counts[kind] < 50 {
			t.Error("not met:", kind, counts)
		}
	}
}

// TestWhatIsUnderIsAConfiguration: what is below comes back where it is set again below the same word.
func TestWhatIsUnderIsAConfiguration(t *testing.T) {
	for _, l := range goodConfigs() {
		for _, leaf := range l {
			for i := range leaf.Path {
				path := leaf.Path[:i+1]
				below, ok := impl.Under(l, path)
				if !impl.GoodConfig(below) || ok != (i+1 < len(leaf.Path)) {
					t.Errorf("Under(%v, %q) = %v, %v", l, path, below, ok)
				}
				then, done := impl.DeleteAt(l, path)
				for _, b := range below {
					var is bool
					if then, is = impl.SetAt(then, slices.Concat(path, b.Path), b.Value); !is {
						t.Errorf("SetAt %q below %q in %v", b.Path, path, l)
					}
				}
				if ok && (!sameConfig(then, l) || !done) {
					t.Errorf("%v became %v", l, then)
				}
			}
		}
	}
}

func TestDifferencesThatAreKnown(t *testing.T) {
	for _, c := range []struct{ a, b, want string }{
		{"", "", ""},
		{"", "a=1", "+a=1"},
		{"a=1", "", "/a"},
		{"", "a b=1, c=2", "+a b=1, +c=2"},
		{"a b=1, c=2", "", "/a b, /c"},
		{"a=1", "a=2", "+a=2"},
		{"a=1, b=2", "a=2, b=1", "+a=2, +b=1"},
		{"a=1, b=2, c=3", "a=1, b=3, c=3", "+b=3"},
		{"a=1", "b=1", "/a, +b=1"},
		{"b=1", "a=1", "/b, +a=1"},
		{"a=1", "a b=1", "/a, +a b=1"},
		{"a b=1", "a=1", "/a b, +a=1"},
		{"a b=1, a c=2", "a=3", "/a b, /a c, +a=3"},
		{"a=3", "a b=1, a c=2", "/a, +a b=1, +a c=2"},
		{"a b=1, a c=2, d=3", "a b c=1, a c=4, d=3", "/a b, +a b c=1, +a c=4"},
		{"a b=1, a-=2", "a-=3", "/a b, +a-=3"},
		{"a=1, c=2, e=3", "b=1, d=2, f=3", "/a, /c, /e, +b=1, +d=2, +f=3"},
	} {
		lookAtDiff(t, leavesOf(c.a), leavesOf(c.b), commandsOf(c.want)...)
		lookAtDo(t, leavesOf(c.a), commandsOf(c.want), leavesOf(c.b)...)
	}
}

// TestFullConfigurationsWithNothingInCommon: what goes goes first, so that there is room.
func TestFullConfigurationsWithNothingInCommon(t *testing.T) {
	a, b := topLeaves(mostLeaves), deepLeaves(mostLeaves)
	lookAtConfigs(t, a, b)
	lookAtConfigs(t, b, a)
	if diff, ok := impl.DiffOf(a, b); len(diff) != 2*mostLeaves || !ok {
		t.Error(len(diff), ok)
	}
	lookAtConfigs(t, a, nil)
	lookAtConfigs(t, nil, a)
}

func TestDoCommands(t *testing.T) {
	for _, c := range []struct{ leaves, commands, want string }{
		{"", "", ""},
		{"a=1", "", "a=1"},
		{"", "+a=1", "a=1"},
		{"a=1", "/a", ""},
		{"a=1", "/a, +a=2", "a=2"},
		{"", "+a=1, /a, +a=2, /a", ""},
		{"a=1", "+a b=2, +a c=3", "a b=2, a c=3"},
		{"a=1", "+a b=2, +a c=3, /a", ""},
		{"a=1", "+a b=2, +a=3", "a=3"},
		{"a b=1, a c=2", "/a, +a c=4", "a c=4"},
		{"", "+c=1, +b=2, +a=3", "a=3, b=2, c=1"},
		{"a=1", "+a=2, +a=3, +a=4", "a=4"},
	} {
		lookAtDo(t, leavesOf(c.leaves), commandsOf(c.commands), leavesOf(c.want)...)
	}
	for _, c := range []struct{ leaves, commands string }{
		{"", "/a"},
		{"a=1", "/b"},
		{"a=1", "/a b"},
		{"a=1", "/a, /a"},
		{"a=1", "/b, +b=1"},
		{"a=1", "+b=1, /b, /b"},
		{"a=1", "+b=1, /c, +c=1"},
		{"a=1", "+a b=1, /a c"},
		{"a=1", "+b="},
		{"a=1", "+b=123456789"},
		{"a=1", "+b=B"},
		{"a=1", "+b c d e f g=1"},
		{"a=1", "+b, +b=1"},
		{"a=1", "+b=1, +C=2, +c=2"},
		{"a=1", "+=1"},
		{"a=1", "/"},
		{"a=1", "/a=1"},
		{"a=1", "/a=2"},
		{"a=1", "/a=A"},
		{"a b=1", "/a=1"},
		{"a=1", "+b=1, /b=1"},
		{"a=1", "/a b c d e f"},
	} {
		refusesDo(t, leavesOf(c.leaves), commandsOf(c.commands))
	}
	refusesDo(t, leavesOf("a=1"), []impl.Command{{}})
	refusesDo(t, leavesOf("a=1"), []impl.Command{{Set: true}})
	refusesDo(t, leavesOf("a=1"), []impl.Command{{Set: true, Value: "1"}})
}

// mixedCommands are such that most of them can be done; where one can't is put among them.
func mixedCommands(l []impl.Leaf, words []string, many int, r *rand.Rand) []impl.Command {
	m := configModelOf(l)
	var commands []impl.Command
	for len(commands) < many {
		c := impl.Command{Set: true, Path: wayOf(mixedWay(words, r)), Value: words[r.Intn(len(words))]}
		if leaves := m.leaves(); len(leaves) > 0 && r.Intn(3) == 0 {
			some := leaves[r.Intn(len(leaves))].Path
			c = impl.Command{Path: slices.Clone(some[:1+r.Intn(len(some))])}
		}
		then := maps.Clone(m)
		if then.do([]impl.Command{c}) {
			m, commands = then, append(commands, c)
		}
	}
	return commands
}

func TestDoCommandsIsSetAtAndDeleteAtEach(t *testing.T) {
	r := rand.New(rand.NewSource(155))
	for range 600 {
		words := mixedWords(r)
		l := mixedConfig(nil, words, r.Intn(60), r)
		commands := mixedCommands(l, words, r.Intn(mostCommands+1), r)
		m := configModelOf(l)
		if !m.do(commands) {
			t.Fatal(l, commands)
		}
		lookAtDo(t, l, commands, m.leaves()...)
		then := l
		for _, c := range commands {
			ok := false
			if c.Set {
				then, ok = impl.SetAt(then, c.Path, c.Value)
			} else {
				then, ok = impl.DeleteAt(then, c.Path)
			}
			if !ok {
				t.Fatal(then, c)
			}
		}
		lookAtDo(t, l, commands, then...)
		if len(commands) == 0 {
			continue
		}
		for _, bad := range []impl.Command{{Path: wayOf("not-here")}, {Set: true, Path: wayOf("a")}, {Set: true, Value: "1"}, {Path: commands[0].Path, Value: "1"}} {
			with := slices.Clone(commands)
			with[r.Intn(len(with))] = bad
			refusesDo(t, l, with)
		}
	}
}

func TestNoCommand80AndOneMore(t *testing.T) {
	var values []impl.Command
	for i := range mostCommands + 2 {
		values = append(values, impl.Command{Set: true, Path: wayOf("a b"), Value: fmt.Sprint(i)})
	}
	turns := slices.Repeat(commandsOf("+a=1, /a"), mostCommands)
	for _, l := range [][]impl.Leaf{nil, leavesOf("b=1")} {
		lookAtDo(t, l, nil, l...)
		lookAtDo(t, l, []impl.Command{}, l...)
		for many := 1; many <= mostCommands; many++ {
			lookAtDo(t, l, values[:many], append(leavesOf(fmt.Sprint("a b=", many-1)), l...)...)
		}
		lookAtDo(t, l, turns[:mostCommands], l...)
		lookAtDo(t, l, turns[:mostCommands-1], append(leavesOf("a=1"), l...)...)
		refusesDo(t, l, values[:mostCommands+1])
		refusesDo(t, l, values)
		refusesDo(t, l, turns[:mostCommands+1])
		refusesDo(t, l, turns)
		refusesDo(t, l, make([]impl.Command, 1<<20))
	}
}

func TestAStepBetweenThatGoesBeyondMaxLeaves(t *testing.T) {
	full := topLeaves(mostLeaves)
	refusesDo(t, full, commandsOf("+a=1, /w000000"))
	refusesDo(t, full, commandsOf("+a=1, /a"))
	refusesDo(t, full, commandsOf("+w000000 a=1, +w000000 b=2, /w000000"))
	lookAtDo(t, full, commandsOf("/w000000, +a=1"), append(leavesOf("a=1"), full[1:]...)...)
	lookAtDo(t, full, commandsOf("/w000000, +a=1, /a, +a=2"), append(leavesOf("a=2"), full[1:]...)...)
	lookAtDo(t, full, commandsOf("+w000000 a=1, /w000001, +w000000 b=2"), append(leavesOf("w000000 a=1, w000000 b=2"), full[2:]...)...)
	refusesDo(t, full, commandsOf("/w000000, +a=1, +b=2"))
	refusesDo(t, full[1:], commandsOf("+a=1, +b=2, /a"))
}

func TestCommandTexts(t *testing.T) {
	for command, want := range map[string]string{
		"+a=1":                        "set a 1",
		"+a b c=1":                    "set a b c 1",
		"+a b c d e=f":                "set a b c d e f",
		"+zzzzzzzz 00000000=--------": "set zzzzzzzz 00000000 --------",
		"+set=delete":                 "set set delete",
		"/a":                          "delete a",
		"/a b c":                      "delete a b c",
		"/a b c d e":                  "delete a b c d e",
		"/delete":                     "delete delete",
		"/-":                          "delete -",
	} {
		lookAtCommandText(t, commandsOf(command)[0], want, true)
	}
	for _, path := range badWays() {
		lookAtCommandText(t, impl.Command{Path: path}, "", false)
		lookAtCommandText(t, impl.Command{Path: path, Value: "1"}, "", false)
		lookAtCommandText(t, impl.Command{Set: true, Path: path, Value: "1"}, "", false)
		lookAtCommandText(t, impl.Command{Set: true, Path: path}, "", false)
	}
	for _, value := range badWords() {
		lookAtCommandText(t, impl.Command{Set: true, Path: wayOf("a"), Value: value}, "", false)
		lookAtCommandText(t, impl.Command{Path: wayOf("a"), Value: value}, map[bool]string{true: "delete a"}[value == ""], value == "")
	}
	for _, value := range goodWords() {
		lookAtCommandText(t, impl.Command{Set: true, Path: wayOf("a"), Value: value}, "set a "+value, true)
		lookAtCommandText(t, impl.Command{Set: true, Path: []string{"a", value}, Value: "1"}, "set a "+value+" 1", true)
		lookAtCommandText(t, impl.Command{Path: []string{value, "b"}}, "delete "+value+" b", true)
		lookAtCommandText(t, impl.Command{Path: wayOf("a"), Value: value}, "", false)
	}
	lookAtCommandText(t, impl.Command{}, "", false)
	lookAtCommandText(t, impl.Command{Set: true}, "", false)
}

// TestEachCommandOfADifferenceHasAText holds them against what stands in them.
func TestEachCommandOfADifferenceHasAText(t *testing.T) {
	all := goodConfigs()
	for i, a := range all {
		diff, _ := impl.DiffOf(a, all[(i+7)%len(all)])
		for _, c := range diff {
			words := []string{map[bool]string{true: "set", false: "delete"}[c.Set]}
			words = append(words, c.Path...)
			if c.Set {
				words = append(words, c.Value)
			}
			lookAtCommandText(t, c, strings.Join(words, " "), true)
		}
	}
}

func TestConfigurationsThatAreNotGoodAreRefused(t *testing.T) {
	good := leavesOf("a=1, b c=2")
	for name, l := range badConfigs() {
		if text, ok := impl.ConfigText(l); text != "" || ok {
			t.Errorf("%s: ConfigText = %q, %v", name, text, ok)
		}
		for _, path := range []string{"a", "b", "a b", "w000000", "x"} {
			refusesSet(t, l, wayOf(path), "1")
			refusesDelete(t, l, wayOf(path))
			lookAtGet(t, l, wayOf(path), "", false)
			lookAtUnder(t, l, wayOf(path))
		}
		refusesDiff(t, l, good)
		refusesDiff(t, good, l)
		refusesDiff(t, l, nil)
		refusesDiff(t, nil, l)
		refusesDiff(t, l, l)
		refusesDo(t, l, nil)
		refusesDo(t, l, commandsOf("+a=1"))
		refusesDo(t, l, commandsOf("/a"))
	}
}

func TestPathsAndValuesThatAreNoneAreRefused(t *testing.T) {
	for _, l := range [][]impl.Leaf{nil, leavesOf("a=1, b c=2"), leavesOf("a b c d e=1"), topLeaves(mostLeaves)} {
		for _, path := range badWays() {
			refusesSet(t, l, path, "1")
			refusesDelete(t, l, path)
			lookAtGet(t, l, path, "", false)
			lookAtUnder(t, l, path)
			refusesDo(t, l, []impl.Command{{Path: path}})
			refusesDo(t, l, []impl.Command{{Set: true, Path: path, Value: "1"}})
		}
		for _, value := range badWords() {
			refusesSet(t, l, wayOf("a"), value)
			refusesSet(t, l, wayOf("w000000"), value)
			refusesDo(t, l, []impl.Command{{Set: true, Path: wayOf("a"), Value: value}})
		}
	}
}

const behindWord = "BEHIND"

var behindLeaf = impl.Leaf{Path: []string{behindWord}, Value: behindWord}

// configWithBehind puts leaves behind the configuration's, and words behind those of its Paths.
func configWithBehind(l []impl.Leaf, behind impl.Leaf) []impl.Leaf {
	var own []impl.Leaf
	for _, leaf := range l {
		own = append(own, impl.Leaf{Path: withBehind(leaf.Path, behindWord), Value: leaf.Value})
	}
	return withBehind(own, behind)
}

func wholeConfig(l []impl.Leaf) []impl.Leaf {
	own := whole(l)
	for i, leaf := range own {
		own[i].Path = whole(leaf.Path)
	}
	return own
}

func commandsWithBehind(l []impl.Command) []impl.Command {
	var own []impl.Command
	for _, c := range l {
		own = append(own, impl.Command{Set: c.Set, Path: withBehind(c.Path, behindWord), Value: c.Value})
	}
	return withBehind(own, impl.Command{Set: true, Path: []string{behindWord}, Value: behindWord})
}

func wholeCommands(l []impl.Command) []impl.Command {
	own := whole(l)
	for i, c := range own {
		own[i].Path = whole(c.Path)
	}
	return own
}

func handsOutConfigBehind(l []impl.Leaf) bool {
	return slices.ContainsFunc(wholeConfig(l), func(leaf impl.Leaf) bool {
		return leaf.Value == behindWord || slices.Contains(leaf.Path, behindWord)
	})
}

func markedWord(n int) string {
	return fmt.Sprint("MARKED ", n)
}

func wordsList(name string, l []string) memoryList {
	return listOf(name, l, markedWord, func(a, b string) bool { return a == b })
}

func configLists(name string, l []impl.Leaf) []memoryList {
	all := []memoryList{listOf(name, l, func(n int) impl.Leaf { return impl.Leaf{Value: markedWord(n)} }, sameLeaf)}
	for i, leaf := range l {
		all = append(all, wordsList(fmt.Sprint(name, " ", i, " Path"), leaf.Path))
	}
	return all
}

func commandsLists(name string, l []impl.Command) []memoryList {
	all := []memoryList{listOf(name, l, func(n int) impl.Command { return impl.Command{Value: markedWord(n)} }, sameCommand)}
	for i, c := range l {
		all = append(all, wordsList(fmt.Sprint(name, " ", i, " Path"), c.Path))
	}
	return all
}

// givenConfigs are arguments with memory behind them, and what they were.
type givenConfigs struct {
	a, b, keptA, keptB     []impl.Leaf
	path, keptPath         []string
	commands, keptCommands []impl.Command
}

func giveConfigs(a, b []impl.Leaf, path []string, commands []impl.Command, behind impl.Leaf) givenConfigs {
	g := givenConfigs{a: configWithBehind(a, behind), b: configWithBehind(b, behind), path: withBehind(path, behindWord), commands: commandsWithBehind(commands)}
	g.keptA, g.keptB, g.keptPath, g.keptCommands = wholeConfig(g.a), wholeConfig(g.b), whole(g.path), wholeCommands(g.commands)
	return g
}

func (g givenConfigs) lookAt(t *testing.T, name string) {
	t.Helper()
	if !sameConfig(wholeConfig(g.a), g.keptA) || !sameConfig(wholeConfig(g.b), g.keptB) || !slices.Equal(whole(g.path), g.keptPath) || !sameCommands(wholeCommands(g.commands), g.keptCommands) {
		t.Fatalf("%s: %v, %v, %v, %v became others", name, g.keptA, g.keptB, g.keptPath, g.keptCommands)
	}
}

// lookAtAnswer holds leaves that are answered against those that are answered without memory behind, writes into all of them, and looks at the arguments again.
func (g givenConfigs) lookAtAnswer(t *testing.T, name string, got []impl.Leaf, ok bool, want []impl.Leaf, wantOk bool) {
	t.Helper()
	if !sameConfig(got, want) || ok != wantOk || handsOutConfigBehind(got) {
		t.Errorf("%s = %v, %v, not %v, %v", name, wholeConfig(got), ok, want, wantOk)
	}
	g.lookAt(t, name)
	lookAtLists(t, name, configLists(name, got))
	g.lookAt(t, name)
}

func lookAtConfigMemory(t *testing.T, a, b []impl.Leaf, path []string, commands []impl.Command, behind impl.Leaf) {
	t.Helper()
	g := giveConfigs(a, b, path, commands, behind)
	if impl.GoodConfig(g.a) != impl.GoodConfig(a) {
		t.Errorf("GoodConfig(%v): what lies behind is read", a)
	}
	g.lookAt(t, "GoodConfig")
	text, ok := impl.ConfigText(g.a)
	if want, wantOk := impl.ConfigText(a); text != want || ok != wantOk {
		t.Errorf("ConfigText(%v) = %q, %v", a, text, ok)
	}
	g.lookAt(t, "ConfigText")
	value, ok := impl.GetAt(g.a, g.path)
	if want, wantOk := impl.GetAt(a, path); value != want || ok != wantOk {
		t.Errorf("GetAt(%v, %q) = %q, %v", a, path, value, ok)
	}
	g.lookAt(t, "GetAt")
	for i, c := range g.commands {
		text, ok := impl.CommandText(c)
		lookAtCommandText(t, commands[i], text, ok)
	}
	g.lookAt(t, "CommandText")
	l, ok := impl.SetAt(g.a, g.path, "v")
	want, wantOk := impl.SetAt(a, path, "v")
	g.lookAtAnswer(t, "SetAt", l, ok, want, wantOk)
	l, ok = impl.DeleteAt(g.a, g.path)
	want, wantOk = impl.DeleteAt(a, path)
	g.lookAtAnswer(t, "DeleteAt", l, ok, want, wantOk)
	l, ok = impl.Under(g.a, g.path)
	want, wantOk = impl.Under(a, path)
	g.lookAtAnswer(t, "Under", l, ok, want, wantOk)
	l, ok = impl.DoCommands(g.a, g.commands)
	want, wantOk = impl.DoCommands(a, commands)
	g.lookAtAnswer(t, "DoCommands", l, ok, want, wantOk)
	l, ok = impl.DoCommands(g.a, nil)
	want, wantOk = impl.DoCommands(a, nil)
	g.lookAtAnswer(t, "DoCommands of none", l, ok, want, wantOk)
	diff, ok := impl.DiffOf(g.a, g.b)
	if want, wantOk := impl.DiffOf(a, b); !sameCommands(diff, want) || ok != wantOk || slices.ContainsFunc(wholeCommands(diff), func(c impl.Command) bool { return slices.Contains(c.Path, behindWord) }) {
		t.Errorf("DiffOf(%v, %v) = %v, %v", a, b, wholeCommands(diff), ok)
	}
	g.lookAt(t, "DiffOf")
	lookAtLists(t, "DiffOf", commandsLists("diff", diff))
	g.lookAt(t, "DiffOf")
}

func TestConfigurationsAreNotWrittenIntoNorShared(t *testing.T) {
	r := rand.New(rand.NewSource(156))
	fine := leafOf("zzzzzzzz=1") // would be a leaf as good as others
	all, ways := goodConfigs(), badWays()
	for i, a := range all {
		b := all[r.Intn(len(all))]
		diff, _ := impl.DiffOf(a, b)
		for _, behind := range []impl.Leaf{behindLeaf, fine} {
			for many, leaf := range append(leavesOf("a b=1, x=1"), a...) {
				if path := leaf.Path[:1+r.Intn(len(leaf.Path))]; many < 10 {
					lookAtConfigMemory(t, a, b, path, diff, behind)
				}
			}
			lookAtConfigMemory(t, b, a, wayOf("a"), commandsOf("+a=1, +a b=2, /a"), behind)
			lookAtConfigMemory(t, a, a, ways[i%10], commandsOf("+a=1, /b, +c=2"), behind)
		}
	}
	for name, l := range badConfigs() {
		if len(l) < 100 && len(name)%5 == 0 {
			lookAtConfigMemory(t, l, all[7], wayOf("a"), commandsOf("+a=1"), behindLeaf)
			lookAtConfigMemory(t, all[7], l, wayOf("a"), commandsOf("+a=1"), fine)
		}
	}
}

func TestWhatIsReadSharesNoMemory(t *testing.T) {
	r := rand.New(rand.NewSource(157))
	for _, l := range goodConfigs() {
		text := joined(piecesOf(l, 1, r), 1, r)
		if len(text) > mostSource {
			continue
		}
		got, _, _ := impl.ReadConfig(text)
		again, _, _ := impl.ReadConfig(text)
		lookAtLists(t, "ReadConfig", slices.Concat(configLists("got", got), configLists("again", again)))
		lookAtConfigRead(t, text, l...)
	}
}

// TestOneListInManyPlacesOfConfigurations hands in paths that are pieces of one list: in the answer each has its own.
func TestOneListInManyPlacesOfConfigurations(t *testing.T) {
	words := []string{"a", "b", "c", "d", "e", "f"}
	l := []impl.Leaf{{Path: words[:5], Value: "1"}, {Path: words[1:6], Value: "2"}, {Path: words[2:4], Value: "3"}, {Path: words[3:4], Value: "4"}}
	other := []impl.Leaf{{Path: words[:1], Value: "1"}, {Path: words[1:2], Value: "2"}}
	commands := []impl.Command{{Set: true, Path: words[4:5], Value: "5"}, {Path: words[:1]}, {Set: true, Path: words[:2], Value: "6"}}
	look := func(name string, lists []memoryList, ok bool) {
		t.Helper()
		if !ok || len(lists) < 2 {
			t.Fatal(name, len(lists), ok)
		}
		lookAtLists(t, name, lists)
		if !slices.Equal(words, []string{"a", "b", "c", "d", "e", "f"}) {
			t.Fatal(name, words)
		}
	}
	set, ok := impl.SetAt(l, words[4:6], "7")
	look("SetAt", configLists("set", set), ok)
	again, ok := impl.SetAt(l, words[:5], "1")
	look("SetAt", configLists("again", again), ok)
	deleted, ok := impl.DeleteAt(l, words[:2])
	look("DeleteAt", configLists("deleted", deleted), ok)
	under, ok := impl.Under(l, words[:2])
	look("Under", configLists("under", under), ok)
	diff, ok := impl.DiffOf(l, other)
	look("DiffOf", commandsLists("diff", diff), ok)
	done, ok := impl.DoCommands(l, commands)
	look("DoCommands", configLists("done", done), ok)
	none, ok := impl.DoCommands(l, nil)
	look("DoCommands", configLists("none", none), ok)
}

func TestWhatIsRefusedChangesNoConfiguration(t *testing.T) {
	l := append(leavesOf("a b=1"), topLeaves(mostLeaves)[1:]...)
	kept := wholeConfig(l)
	refusesSet(t, l, wayOf("a c"), "1")
	refusesSet(t, l, wayOf("a"), "")
	refusesDelete(t, l, wayOf("b"))
	refusesDo(t, l, commandsOf("/a b, +a=1, +a b=2, /x"))
	refusesDiff(t, l, leavesOf("b=1, a=2"))
	if !sameConfig(wholeConfig(l), kept) {
		t.Error(wholeConfig(l))
	}
}

func TestAnEmptyListAndNoListAreTheSameInConfigurations(t *testing.T) {
	for _, l := range [][]impl.Leaf{nil, {}} {
		lookAtConfig(t, l)
		for _, path := range [][]string{nil, {}} {
			refusesSet(t, l, path, "1")
			refusesDelete(t, l, path)
			lookAtGet(t, l, path, "", false)
			lookAtUnder(t, l, path)
			lookAtCommandText(t, impl.Command{Path: path}, "", false)
		}
		for _, c := range [][]impl.Command{nil, {}} {
			lookAtDo(t, l, c)
		}
		lookAtDiff(t, l, nil)
		lookAtDiff(t, nil, l)
		lookAtConfigs(t, l, leavesOf("a=1"))
		lookAtConfigs(t, leavesOf("a=1"), l)
	}
}

// TestTextsAreReadByGoto looks for a goto and its label in what reads texts, and for a text that is gone through by runes.
func TestTextsAreReadByGoto(t *testing.T) {
	parsed, err := parser.ParseFile(token.NewFileSet(), "../impl/l15_config.go", nil, parser.SkipObjectResolution)
	if err != nil {
		t.Fatal(err)
	}
	jumps, labels, runes := map[string]int{}, map[string]bool{}, false
	ast.Inspect(parsed, func(n ast.Node) bool {
		switch x := n.(type) {
		case *ast.BranchStmt:
			if x.Tok == token.GOTO {
				jumps[x.Label.Name]++
			}
		case *ast.LabeledStmt:
			labels[x.Label.Name] = true
		case *ast.Ident:
			runes = runes || x.Name == "rune"
		}
		return true
	})
	if len(jumps) == 0 || !runes {
		t.Error(jumps, runes)
	}
	for label := range jumps {
		if !labels[label] {
			t.Error(label)
		}
	}
}
