package tests

import (
	"encoding/binary"
	"math"
	"math/rand"
	"slices"
	"strings"
	"testing"

	"loop.example/g00344/impl"
)

const mostPath = 10
const mostComms = 6
const mostNlri = 10
const mostAsn = 65535
const mostBytes = 1000

func sameAttrs(a, b impl.Attrs) bool {
	return a.Origin == b.Origin && slices.Equal(a.Path, b.Path) && a.Next == b.Next && a.Med == b.Med && a.Pref == b.Pref && slices.Equal(a.Comms, b.Comms)
}

func sameUpdate(a, b impl.Update) bool {
	return slices.Equal(a.Gone, b.Gone) && sameAttrs(a.Attrs, b.Attrs) && slices.Equal(a.Come, b.Come)
}

// fullAttrs has as much as there may be, each number at its greatest.
func fullAttrs() impl.Attrs {
	return impl.Attrs{
		Origin: 2,
		Path:   slices.Repeat([]int{mostAsn}, mostPath),
		Next:   lastAddr,
		Med:    mostValue,
		Pref:   mostValue,
		Comms:  []int{mostValue - 5, mostValue - 4, mostValue - 3, mostValue - 2, mostValue - 1, mostValue},
	}
}

func plainAttrs() impl.Attrs {
	return impl.Attrs{Origin: 1, Path: []int{300, 7}, Next: 5, Med: 2, Pref: 100, Comms: []int{9, 70000}}
}

func mixedAttrs(r *rand.Rand) impl.Attrs {
	a := impl.Attrs{Origin: r.Intn(3), Next: r.Intn(1 << 32), Med: r.Intn(mostValue + 1), Pref: r.Intn(mostValue + 1)}
	for range r.Intn(mostPath + 1) {
		a.Path = append(a.Path, 1+r.Intn(mostAsn))
	}
	for range r.Intn(mostComms + 1) {
		a.Comms = append(a.Comms, r.Intn(mostValue+1))
	}
	slices.Sort(a.Comms)
	a.Comms = slices.Compact(a.Comms)
	return a
}

func goodAttrs() []impl.Attrs {
	l := []impl.Attrs{
		{},
		{Path: []int{}, Comms: []int{}},
		{Origin: 1},
		{Origin: 2},
		{Path: []int{1}},
		{Path: []int{mostAsn}},
		{Path: []int{5, 5, 5}},
		{Path: []int{9, 8, 9, 1}},
		{Path: slices.Repeat([]int{1}, mostPath)},
		{Next: lastAddr},
		{Med: mostValue},
		{Pref: mostValue},
		{Comms: []int{0}},
		{Comms: []int{mostValue}},
		{Comms: []int{0, 1, 2, 255, 256, 65536}},
		plainAttrs(),
		fullAttrs(),
	}
	r := rand.New(rand.NewSource(4))
	for range 40 {
		l = append(l, mixedAttrs(r))
	}
	return l
}

// badAttrs has what is not good, each by one fault alone or by several.
func badAttrs() []impl.Attrs {
	var l []impl.Attrs
	with := func(change func(a *impl.Attrs)) {
		for _, a := range []impl.Attrs{{}, plainAttrs(), fullAttrs()} {
			change(&a)
			l = append(l, a)
		}
	}
	for _, n := range []int{-1, 3, 255, math.MinInt, math.MaxInt} {
		with(func(a *impl.Attrs) { a.Origin = n })
	}
	for _, n := range badAddrs() {
		with(func(a *impl.Attrs) { a.Next = n })
	}
	for _, n := range []int{-1, mostValue + 1, 1 << 24, 1 << 40, math.MinInt, math.MaxInt} {
		with(func(a *impl.Attrs) { a.Med = n })
		with(func(a *impl.Attrs) { a.Pref = n })
		with(func(a *impl.Attrs) { a.Comms = []int{n} })
		with(func(a *impl.Attrs) { a.Comms = []int{n, mostValue} })
		with(func(a *impl.Attrs) { a.Comms = []int{0, 1, n} })
	}
	for _, n := range []int{0, -1, mostAsn + 1, 1 << 16, 1 << 40, math.MinInt, math.MaxInt} {
		with(func(a *impl.Attrs) { a.Path = []int{n} })
		with(func(a *impl.Attrs) { a.Path = []int{n, 1} })
		with(func(a *impl.Attrs) { a.Path = []int{1, 2, n} })
	}
	for _, path := range [][]int{slices.Repeat([]int{1}, mostPath+1), slices.Repeat([]int{7}, 300), make([]int, mostPath)} {
		with(func(a *impl.Attrs) { a.Path = path })
	}
	for _, comms := range [][]int{{5, 5}, {5, 4}, {0, 9, 8}, {1, 2, 3, 4, 5, 5}, {9, 1, 2, 3}, {0, 1, 2, 3, 4, 5, 6}, {0, 0}} {
		with(func(a *impl.Attrs) { a.Comms = comms })
	}
	return l
}

// risingPrefixes has prefixes of mixed lengths in their order, each once.
func risingPrefixes(many int, r *rand.Rand) []impl.Prefix {
	var l []impl.Prefix
	for len(l) < many {
		l = append(l, prefixAt(r.Intn(1<<32), []int{0, 1, 7, 8, 9, 16, 17, 24, 25, 31, 32, r.Intn(33)}[r.Intn(12)]))
		slices.SortFunc(l, comparePrefixes)
		l = slices.Compact(l)
	}
	return l
}

func comparePrefixes(p, q impl.Prefix) int {
	return compareEntries(impl.Entry{Prefix: p}, impl.Entry{Prefix: q})
}

// mixedUpdate deals rising prefixes out to those that go and those that come.
func mixedUpdate(gone, come int, r *rand.Rand) impl.Update {
	var u impl.Update
	if come > 0 {
		u.Attrs = mixedAttrs(r)
	}
	for _, p := range risingPrefixes(gone+come, r) {
		if r.Intn(gone+come) < gone {
			u.Gone = append(u.Gone, p)
			gone--
		} else {
			u.Come = append(u.Come, p)
			come--
		}
	}
	return u
}

// edgePrefixes are of each length at which one byte more is needed, or ends.
func edgePrefixes() []impl.Prefix {
	var l []impl.Prefix
	for i, length := range []int{0, 1, 8, 9, 31, 32} {
		l = append(l, prefixAt(i<<29|0x0a5a5a5a*i, length))
	}
	slices.SortFunc(l, comparePrefixes)
	return l
}

func goodUpdates() []impl.Update {
	edges := edgePrefixes()
	l := []impl.Update{
		{},
		{Gone: []impl.Prefix{}, Come: []impl.Prefix{}, Attrs: impl.Attrs{Path: []int{}, Comms: []int{}}},
		{Gone: edges},
		{Come: edges},
		{Come: edges, Attrs: fullAttrs()},
		{Gone: edges[:3], Attrs: plainAttrs(), Come: edges[3:]},
		{Gone: edges[3:], Attrs: plainAttrs(), Come: edges[:3]},
		{Gone: apart(0, mostNlri)},
		{Come: apart(0, mostNlri)},
		{Gone: apart(0, mostNlri), Attrs: fullAttrs(), Come: apart(1, mostNlri)},
		{Gone: apart(lastAddr-40, mostNlri), Attrs: impl.Attrs{Origin: 2}, Come: apart(0, mostNlri)},
		{Gone: []impl.Prefix{prefixAt(10<<24, 8)}, Come: []impl.Prefix{prefixAt(10<<24, 9)}},
		{Gone: []impl.Prefix{prefixAt(10<<24, 9)}, Come: []impl.Prefix{prefixAt(10<<24, 8)}},
	}
	for _, p := range goodPrefixes() {
		l = append(l, impl.Update{Gone: []impl.Prefix{p}}, impl.Update{Attrs: plainAttrs(), Come: []impl.Prefix{p}})
	}
	for _, a := range goodAttrs() {
		l = append(l, impl.Update{Attrs: a, Come: edges[1:2]}, impl.Update{Gone: edges[2:], Attrs: a, Come: edges[:2]})
	}
	r := rand.New(rand.NewSource(44))
	for gone := range mostNlri + 1 {
		for come := range mostNlri + 1 {
			l = append(l, mixedUpdate(gone, come, r))
		}
	}
	return l
}

func badUpdates() []impl.Update {
	one := []impl.Prefix{prefixAt(10<<24, 8)}
	var l []impl.Update
	for _, a := range badAttrs() {
		l = append(l, impl.Update{Attrs: a}, impl.Update{Gone: one, Attrs: a}, impl.Update{Attrs: a, Come: one})
	}
	for _, a := range goodAttrs() {
		if !sameAttrs(a, impl.Attrs{}) {
			l = append(l, impl.Update{Attrs: a}, impl.Update{Gone: one, Attrs: a}, impl.Update{Gone: one, Attrs: a, Come: []impl.Prefix{}})
		}
	}
	lists := [][]impl.Prefix{
		{prefixAt(11<<24, 8), prefixAt(10<<24, 8)},
		{prefixAt(10<<24, 9), prefixAt(10<<24, 8)},
		{prefixAt(9<<24, 8), prefixAt(9<<24, 8)},
		{prefixAt(1, 32), prefixAt(9, 32), prefixAt(5, 32)},
		{{}, {}},
		apart(0, mostNlri+1),
		apart(0, 256),
		apart(0, 257),
		make([]impl.Prefix, mostNlri),
	}
	for _, p := range badPrefixes() {
		lists = append(lists, []impl.Prefix{p}, []impl.Prefix{{}, p}, []impl.Prefix{p, prefixAt(lastAddr, 32)})
	}
	for _, list := range lists {
		l = append(l, impl.Update{Gone: list}, impl.Update{Come: list}, impl.Update{Gone: list, Come: one}, impl.Update{Gone: one, Attrs: plainAttrs(), Come: list})
	}
	for _, p := range goodPrefixes() {
		l = append(l, impl.Update{Gone: []impl.Prefix{p}, Come: []impl.Prefix{p}})
	}
	rising := apart(0, mostNlri)
	for i := range rising {
		l = append(l,
			impl.Update{Gone: rising, Attrs: fullAttrs(), Come: rising[i : i+1]},
			impl.Update{Gone: rising[i : i+1], Come: rising},
			impl.Update{Gone: rising[:i+1], Come: rising[i:]})
	}
	return l
}

// goodByWords goes by each word of the document for updates as they are read.
func goodByWords(u impl.Update) bool {
	for _, l := range [][]impl.Prefix{u.Gone, u.Come} {
		if len(l) > mostNlri || !slices.IsSortedFunc(l, comparePrefixes) || len(slices.Compact(slices.Clone(l))) != len(l) {
			return false
		}
		for _, p := range l {
			if p.Addr != prefixAt(p.Addr, p.Len).Addr || slices.Contains(u.Gone, p) && slices.Contains(u.Come, p) {
				return false
			}
		}
	}
	a := u.Attrs
	for _, n := range append([]int{a.Med, a.Pref}, a.Comms...) {
		if n > mostValue {
			return false
		}
	}
	for i := 1; i < len(a.Comms); i++ {
		if a.Comms[i-1] >= a.Comms[i] {
			return false
		}
	}
	return a.Origin <= 2 && len(a.Path) <= mostPath && !slices.Contains(a.Path, 0) && len(a.Comms) <= mostComms
}

// readByWords goes from the front by the document's words and ends at the first code that it meets.
func readByWords(s string) (u impl.Update, code int) {
	defer func() {
		if met := recover(); met != nil {
			u, code = impl.Update{}, met.(int)
		}
	}()
	number := func(width int) int {
		if len(s) < width {
			panic(1)
		}
		n := 0
		for _, b := range []byte(s[:width]) {
			n = n*256 + int(b)
		}
		s = s[width:]
		return n
	}
	numbers := func(width int) []int {
		var l []int
		for many := number(1); many > 0; many-- {
			l = append(l, number(width))
		}
		return l
	}
	prefixes := func() []impl.Prefix {
		var l []impl.Prefix
		for many := number(1); many > 0; many-- {
			length := number(1)
			if length > 32 {
				panic(3)
			}
			width := int(math.Ceil(float64(length) / 8))
			l = append(l, impl.Prefix{Addr: number(width) << (32 - 8*width), Len: length})
		}
		return l
	}
	u.Gone = prefixes()
	if s == "" && goodByWords(u) {
		return u, 0
	} else if s == "" {
		return impl.Update{}, 3
	}
	u.Attrs = impl.Attrs{Origin: number(1), Path: numbers(2), Next: number(4), Med: number(3), Pref: number(3), Comms: numbers(3)}
	u.Come = prefixes()
	if s != "" {
		return impl.Update{}, 2
	}
	if len(u.Come) == 0 || !goodByWords(u) {
		return impl.Update{}, 3
	}
	return u, 0
}

func lookAtRead(t *testing.T, s string) {
	t.Helper()
	want, code := readByWords(s)
	u, c, ok := impl.ReadUpdate(s)
	if !sameUpdate(u, want) || c != code || ok != (code == 0) {
		t.Errorf("ReadUpdate(%x) = %v, %d, %v, not %v, %d", s, u, c, ok, want, code)
	}
	if own, ownOk := impl.UpdateBytes(u); ok && (own != s || !ownOk) {
		t.Errorf("ReadUpdate(%x) is %v, with bytes %x, %v", s, u, own, ownOk)
	}
}

func refused(t *testing.T, name, s string, code int) {
	t.Helper()
	if u, c, ok := impl.ReadUpdate(s); !sameUpdate(u, impl.Update{}) || c != code || ok {
		t.Errorf("%s: ReadUpdate(%x) = %v, %d, %v, not %d", name, s, u, c, ok, code)
	}
}

// bytesByWords writes an update, good or not, as the document says it, with the library's help; come tells whether those that come are written.
func bytesByWords(u impl.Update, come bool) string {
	var b []byte
	number := func(n, width int) {
		b = append(b, binary.BigEndian.AppendUint64(nil, uint64(n))[8-width:]...)
	}
	numbers := func(l []int, width int) {
		number(len(l), 1)
		for _, n := range l {
			number(n, width)
		}
	}
	prefixes := func(l []impl.Prefix) {
		number(len(l), 1)
		for _, p := range l {
			number(p.Len, 1)
			b = append(b, binary.BigEndian.AppendUint32(nil, uint32(p.Addr))[:(p.Len+7)/8]...)
		}
	}
	prefixes(u.Gone)
	if come {
		number(u.Attrs.Origin, 1)
		numbers(u.Attrs.Path, 2)
		number(u.Attrs.Next, 4)
		number(u.Attrs.Med, 3)
		number(u.Attrs.Pref, 3)
		numbers(u.Attrs.Comms, 3)
		prefixes(u.Come)
	}
	return string(b)
}

func mustBytes(t *testing.T, u impl.Update) string {
	t.Helper()
	s, ok := impl.UpdateBytes(u)
	if !ok {
		t.Fatalf("UpdateBytes(%v) = %x, %v", u, s, ok)
	}
	return s
}

func TestLimitsOfUpdatesAreAsSaid(t *testing.T) {
	if impl.MaxPath != mostPath || impl.MaxComms != mostComms || impl.MaxNlri != mostNlri || impl.MaxAsn != mostAsn {
		t.Error(impl.MaxPath, impl.MaxComms, impl.MaxNlri, impl.MaxAsn)
	}
}

func TestUpdatesComeBackFromTheirBytes(t *testing.T) {
	for _, u := range goodUpdates() {
		if !impl.GoodUpdate(u) {
			t.Errorf("GoodUpdate(%v) is false", u)
		}
		s := mustBytes(t, u)
		if want := bytesByWords(u, len(u.Come) > 0); s != want {
			t.Errorf("UpdateBytes(%v) = %x, not %x", u, s, want)
		}
		if back, code, ok := impl.ReadUpdate(s); !sameUpdate(back, u) || code != 0 || !ok {
			t.Errorf("%v comes back as %v, %d, %v", u, back, code, ok)
		}
	}
}

func TestUpdateBytesThatAreKnown(t *testing.T) {
	known := []struct {
		u impl.Update
		s string
	}{
		{impl.Update{}, "\x00"},
		{impl.Update{Gone: []impl.Prefix{{}}}, "\x01\x00"},
		{impl.Update{Come: []impl.Prefix{{}}}, "\x00" + "\x00\x00\x00\x00\x00\x00\x00\x00\x00\x00\x00\x00\x00" + "\x01\x00"},
		{impl.Update{Gone: []impl.Prefix{prefixAt(1<<31, 1), prefixAt(0xc0a80164, 32)}}, "\x02\x01\x80\x20\xc0\xa8\x01\x64"},
		{
			impl.Update{Gone: []impl.Prefix{prefixAt(0x0a800000, 9)}, Attrs: impl.Attrs{Origin: 2, Path: []int{1, mostAsn}, Next: 0x01020304, Med: mostValue, Pref: 0x010203, Comms: []int{0, mostValue}}, Come: []impl.Prefix{{}, prefixAt(lastAddr, 31)}},
			"\x01\x09\x0a\x80" + "\x02\x02\x00\x01\xff\xff\x01\x02\x03\x04\x0f\x42\x40\x01\x02\x03\x02\x00\x00\x00\x0f\x42\x40" + "\x02\x00\x1f\xff\xff\xff\xfe",
		},
	}
	for _, k := range known {
		if s, ok := impl.UpdateBytes(k.u); s != k.s || !ok {
			t.Errorf("UpdateBytes(%v) = %x, %v, not %x", k.u, s, ok, k.s)
		}
		if u, code, ok := impl.ReadUpdate(k.s); !sameUpdate(u, k.u) || code != 0 || !ok {
			t.Errorf("ReadUpdate(%x) = %v, %d, %v, not %v", k.s, u, code, ok, k.u)
		}
	}
}

func TestUpdatesThatAreNotGood(t *testing.T) {
	for _, u := range badUpdates() {
		if impl.GoodUpdate(u) {
			t.Errorf("GoodUpdate(%v)", u)
		}
		if s, ok := impl.UpdateBytes(u); s != "" || ok {
			t.Errorf("UpdateBytes(%v) = %x, %v", u, s, ok)
		}
	}
}

func TestGoodAttrs(t *testing.T) {
	for _, a := range goodAttrs() {
		if !impl.GoodAttrs(a) {
			t.Errorf("GoodAttrs(%v) is false", a)
		}
	}
	for _, a := range badAttrs() {
		if impl.GoodAttrs(a) {
			t.Errorf("GoodAttrs(%v)", a)
		}
	}
}

func TestBytesThatAreCutOffOrHaveSomeBehind(t *testing.T) {
	for _, u := range goodUpdates() {
		s := mustBytes(t, u)
		without := len(bytesByWords(u, false))
		for i := range s {
			if i == without { // those that go, alone, are an update too
				continue
			}
			refused(t, "cut off", s[:i], 1)
		}
		for _, behind := range []string{"\x00", "\xff", "\x00\x00", s} {
			if len(u.Come) > 0 {
				refused(t, "left behind", s+behind, 2)
			}
			lookAtRead(t, s+behind)
		}
	}
	refused(t, "nothing", "", 1)
}

// asBytes tells whether numbers fit into the bytes that are for them, so that they can be read as they stand.
func asBytes(u impl.Update) bool {
	fits := func(n, width int) bool { return 0 <= n && n < 1<<(8*width) }
	good := fits(u.Attrs.Origin, 1) && fits(u.Attrs.Next, 4) && fits(u.Attrs.Med, 3) && fits(u.Attrs.Pref, 3)
	for _, n := range u.Attrs.Path {
		good = good && fits(n, 2)
	}
	for _, n := range u.Attrs.Comms {
		good = good && fits(n, 3)
	}
	for _, p := range slices.Concat(u.Gone, u.Come) {
		good = good && 0 <= p.Len && p.Len <= 32 && fits(p.Addr, 4)
	}
	return good && len(u.Gone) < 256 && len(u.Come) < 256 && len(u.Attrs.Path) < 256 && len(u.Attrs.Comms) < 256
}

// bitsBeyondBytes tells whether a prefix has bits behind the bytes that its Len needs: these are not written.
func bitsBeyondBytes(u impl.Update) bool {
	return slices.ContainsFunc(slices.Concat(u.Gone, u.Come), func(p impl.Prefix) bool {
		return p.Addr%(1<<(32-(p.Len+7)/8*8)) != 0
	})
}

func TestBytesOfUpdatesThatAreNotGood(t *testing.T) {
	many := 0
	for _, u := range badUpdates() {
		if !asBytes(u) || bitsBeyondBytes(u) {
			continue
		}
		if s := bytesByWords(u, true); len(s) <= mostBytes {
			refused(t, "not good", s, 3)
			refused(t, "not good, and some behind", s+"\x00", 2)
			refused(t, "not good, and cut off", s[:len(s)-1], 1)
			many++
		}
	}
	if many < 100 {
		t.Errorf("only %d of them can be told in bytes", many)
	}
}

func TestBytesThatAreRefusedOneByOne(t *testing.T) {
	attrs := "\x00\x00\x00\x00\x00\x00\x00\x00\x00\x00\x00\x00\x00"
	eleven := "\x0b" + bytesByWords(impl.Update{Gone: apart(0, 11)}, false)[1:]
	for _, k := range []struct {
		name, s string
		code    int
	}{
		{"a Len of 33", "\x01\x21\x00\x00\x00\x00\x00", 3},
		{"a Len of 33 at the end", "\x01\x21", 3},
		{"a Len of 255, ahead of bytes that end too early", "\x05\xff", 3},
		{"a Len of 33 behind a good one", "\x03\x08\x0a\x21", 3},
		{"a Len of 33 behind one that is not good, some missing", "\x04\x00\x07\x01\x21", 3},
		{"a Len of 33 of one that comes", "\x00" + attrs + "\x01\x21", 3},
		{"a Len of 33 of one that comes, Origin 9, some missing", "\x00\x09" + attrs[1:] + "\xff\x21", 3},
		{"a Len of 33, but cut off ahead of it", "\x02\x20\x00\x00\x00", 1},
		{"a Len of 33 among those behind", "\x00" + attrs + "\x01\x00\x01\x21", 2},
		{"eleven that go", eleven, 3},
		{"eleven that go, one missing", eleven[:len(eleven)-5], 1},
		{"eleven that come", "\x00" + attrs + eleven, 3},
		{"eleven that come and one behind", "\x00" + attrs + eleven + "\x00", 2},
		{"255 that go, none there", "\xff", 1},
		{"a path of 255 that is not there", "\x00\x00\xff", 1},
		{"communities, 255 that are not there", "\x00" + attrs[:12] + "\xff", 1},
		{"bits behind a Len of 0 that are bytes of their own", "\x01\x00\x80", 1},
		{"a bit behind Len 1", "\x01\x01\x40", 3},
		{"the last bit of a byte, Len 7", "\x01\x07\x01", 3},
		{"a bit behind Len 31", "\x01\x1f\x00\x00\x00\x01", 3},
		{"a bit behind Len 9 of one that comes", "\x00" + attrs + "\x01\x09\x00\x40", 3},
		{"falling", "\x02\x08\x0b\x08\x0a", 3},
		{"twice", "\x02\x08\x0a\x08\x0a", 3},
		{"in both lists", "\x01\x08\x0a" + attrs + "\x01\x08\x0a", 3},
		{"none comes behind attrs of zeros", "\x00" + attrs + "\x00", 3},
		{"none comes behind attrs of zeros, one goes", "\x01\x08\x0a" + attrs + "\x00", 3},
		{"none comes behind attrs, and one is left", "\x00" + attrs + "\x00\x00", 2},
		{"attrs, and not how many come", "\x00" + attrs, 1},
		{"Origin 3", "\x00\x03" + attrs[1:] + "\x01\x00", 3},
		{"an asn of 0", "\x00\x00\x01\x00\x00" + attrs[2:] + "\x01\x00", 3},
		{"Med of a million and one", "\x00" + attrs[:6] + "\x0f\x42\x41" + attrs[9:] + "\x01\x00", 3},
		{"Pref of a million and one", "\x00" + attrs[:9] + "\x0f\x42\x41" + attrs[12:] + "\x01\x00", 3},
		{"a community of a million and one", "\x00" + attrs[:12] + "\x01\x0f\x42\x41" + "\x01\x00", 3},
		{"communities that do not rise", "\x00" + attrs[:12] + "\x02\x00\x00\x05\x00\x00\x05" + "\x01\x00", 3},
		{"seven communities", "\x00" + attrs[:12] + "\x07\x00\x00\x01\x00\x00\x02\x00\x00\x03\x00\x00\x04\x00\x00\x05\x00\x00\x06\x00\x00\x07" + "\x01\x00", 3},
		{"a path of eleven", "\x00\x00\x0b" + strings.Repeat("\x00\x01", 11) + attrs[2:] + "\x01\x00", 3},
	} {
		refused(t, k.name, k.s, k.code)
	}
}

func TestBytesWithOneChanged(t *testing.T) {
	for i, u := range goodUpdates() {
		s := mustBytes(t, u)
		for at := range s {
			for _, b := range []byte{0, 1, 2, 3, 6, 7, 10, 11, 32, 33, 255, s[at] + 1, s[at] - 1, s[at] ^ 128, byte(i)} {
				lookAtRead(t, s[:at]+string([]byte{b})+s[at+1:])
			}
			lookAtRead(t, s[:at]+s[at+1:])
			lookAtRead(t, s[:at]+"\x00"+s[at:])
		}
	}
}

func TestBytesAtRandom(t *testing.T) {
	r := rand.New(rand.NewSource(444))
	for range 20000 {
		b := make([]byte, r.Intn(40))
		for i := range b {
			b[i] = byte(r.Intn([]int{2, 4, 12, 34, 256}[r.Intn(5)]))
		}
		lookAtRead(t, string(b))
	}
	for i := range 256 {
		lookAtRead(t, string([]byte{byte(i)}))
		for j := range 256 {
			lookAtRead(t, string([]byte{byte(i), byte(j)}))
			lookAtRead(t, string([]byte{1, byte(i), byte(j)}))
			lookAtRead(t, string([]byte{2, 0, byte(i), byte(j)}))
		}
	}
}

func TestMoreThan1000Bytes(t *testing.T) {
	for _, s := range []string{"", "\x00", "\x01\x21", "\x01\x00", "\xff"} {
		full := s + strings.Repeat("\x00", mostBytes-len(s))
		lookAtRead(t, full)
		if _, code, ok := impl.ReadUpdate(full); code == 0 || ok {
			t.Errorf("1000 bytes, %x ..: %d, %v", s, code, ok)
		}
		refused(t, "1001 bytes", full+"\x00", 0)
		refused(t, "100000 bytes", strings.Repeat(full, 100), 0)
	}
	all := strings.Repeat("\x00", mostBytes)
	p, end, ok := impl.TakePrefix(all, mostBytes-1)
	if p != (impl.Prefix{}) || end != mostBytes || !ok {
		t.Errorf("at the end of 1000 bytes: %v, %d, %v", p, end, ok)
	}
	for _, at := range []int{0, 5, mostBytes, mostBytes + 1} {
		if p, end, ok := impl.TakePrefix(all+"\x00", at); p != (impl.Prefix{}) || end != 0 || ok {
			t.Errorf("of 1001 bytes, at %d: %v, %d, %v", at, p, end, ok)
		}
	}
}

func TestPrefixesComeBackFromTheirBytes(t *testing.T) {
	for _, p := range goodPrefixes() {
		s, ok := impl.PrefixBytes(p)
		if want := bytesByWords(impl.Update{Gone: []impl.Prefix{p}}, false)[1:]; s != want || !ok {
			t.Errorf("PrefixBytes(%v) = %x, %v, not %x", p, s, ok, want)
		}
		for _, ahead := range []string{"", "\x00", "\xff\xff", strings.Repeat("\x21", 900)} {
			for _, behind := range []string{"", "\x00", "\xff", strings.Repeat("\x40", 90)} {
				q, end, ok := impl.TakePrefix(ahead+s+behind, len(ahead))
				if q != p || end != len(ahead)+len(s) || !ok {
					t.Errorf("TakePrefix(%x, %d) = %v, %d, %v, not %v", ahead+s+behind, len(ahead), q, end, ok, p)
				}
			}
			for cut := range s {
				if q, end, ok := impl.TakePrefix(ahead+s[:cut], len(ahead)); q != (impl.Prefix{}) || end != 0 || ok {
					t.Errorf("TakePrefix(%x, %d) = %v, %d, %v", ahead+s[:cut], len(ahead), q, end, ok)
				}
			}
		}
	}
}

func TestBytesOfAPrefixComeBackFromIt(t *testing.T) {
	r := rand.New(rand.NewSource(4444))
	for range 5000 {
		b := make([]byte, r.Intn(12))
		for i := range b {
			b[i] = byte(r.Intn([]int{2, 34, 256}[r.Intn(3)]) << r.Intn(8))
		}
		s := string(b)
		for at := 0; at <= len(s); at++ {
			p, end, ok := impl.TakePrefix(s, at)
			own, ownOk := impl.PrefixBytes(p)
			if ok && (!impl.GoodPrefix(p) || !ownOk || s[at:end] != own) {
				t.Errorf("TakePrefix(%x, %d) = %v, %d, %v, with bytes %x", s, at, p, end, ok, own)
			}
			_, code := readByWords("\x01" + s[at:min(len(s), at+1+prefixWidth(s, at))])
			if ok != (code == 0) || !ok && (p != (impl.Prefix{}) || end != 0) {
				t.Errorf("TakePrefix(%x, %d) = %v, %d, %v, by the words of an update %d", s, at, p, end, ok, code)
			}
		}
	}
}

// prefixWidth is how many bytes the Len that stands there needs.
func prefixWidth(s string, at int) int {
	if at >= len(s) {
		return 0
	}
	return (int(s[at]) + 7) / 8
}

func TestPrefixBytesThatAreKnown(t *testing.T) {
	for s, p := range map[string]impl.Prefix{
		"\x00":                 {},
		"\x01\x00":             prefixAt(0, 1),
		"\x01\x80":             prefixAt(lastAddr, 1),
		"\x08\x0a":             prefixAt(10<<24, 8),
		"\x09\x0a\x80":         prefixAt(10<<24|1<<23, 9),
		"\x10\x0a\x01":         prefixAt(10<<24|1<<16, 16),
		"\x18\x0a\x01\x02":     prefixAt(10<<24|1<<16|2<<8, 24),
		"\x1f\xff\xff\xff\xfe": prefixAt(lastAddr, 31),
		"\x20\xff\xff\xff\xff": prefixAt(lastAddr, 32),
		"\x20\x00\x00\x00\x00": prefixAt(0, 32),
	} {
		if got, ok := impl.PrefixBytes(p); got != s || !ok {
			t.Errorf("PrefixBytes(%v) = %x, %v, not %x", p, got, ok, s)
		}
		if q, end, ok := impl.TakePrefix(s, 0); q != p || end != len(s) || !ok {
			t.Errorf("TakePrefix(%x, 0) = %v, %d, %v", s, q, end, ok)
		}
	}
	for _, p := range badPrefixes() {
		if s, ok := impl.PrefixBytes(p); s != "" || ok {
			t.Errorf("PrefixBytes(%v) = %x, %v", p, s, ok)
		}
	}
}

func TestPlacesWhereNoPrefixStands(t *testing.T) {
	for _, s := range []string{"", "\x00", "\x08\x0a", "\x00\x09\x0a\x80", strings.Repeat("\x00", mostBytes)} {
		for _, at := range []int{-1, len(s), len(s) + 1, -len(s), math.MinInt, math.MaxInt} {
			if at == 0 && s != "" {
				continue
			}
			if p, end, ok := impl.TakePrefix(s, at); p != (impl.Prefix{}) || end != 0 || ok {
				t.Errorf("TakePrefix(%x, %d) = %v, %d, %v", s, at, p, end, ok)
			}
		}
	}
	for _, s := range []string{"\x21\x00\x00\x00\x00\x00", "\x21", "\xff", "\x01\x40", "\x00\x01", "\x1f\x00\x00\x00\x01", "\x20\x00\x00\x00", "\x09\x0a"} {
		at := len(s) - len(strings.TrimLeft(s, "\x00"))
		if p, end, ok := impl.TakePrefix(s, at); p != (impl.Prefix{}) || end != 0 || ok {
			t.Errorf("TakePrefix(%x, %d) = %v, %d, %v", s, at, p, end, ok)
		}
	}
}

func TestPrependPathPutsTheAsnAhead(t *testing.T) {
	for _, a := range goodAttrs() {
		for many := range mostPath + 3 {
			for _, asn := range []int{1, 7, 300, mostAsn} {
				got, ok := impl.PrependPath(a, asn, many)
				want, wantOk := impl.Attrs{}, many >= 1 && many+len(a.Path) <= mostPath
				if wantOk {
					want = a
					want.Path = append(slices.Repeat([]int{asn}, many), a.Path...)
				}
				if !sameAttrs(got, want) || ok != wantOk {
					t.Errorf("PrependPath(%v, %d, %d) = %v, %v, not %v, %v", a, asn, many, got, ok, want, wantOk)
				}
				if ok && !impl.GoodAttrs(got) {
					t.Errorf("PrependPath(%v, %d, %d) = %v is not good", a, asn, many, got)
				}
			}
		}
	}
}

func TestPrependPathOfWhatIsNotGood(t *testing.T) {
	refusedAttrs := func(a impl.Attrs, asn, many int) {
		t.Helper()
		if got, ok := impl.PrependPath(a, asn, many); !sameAttrs(got, impl.Attrs{}) || ok {
			t.Errorf("PrependPath(%v, %d, %d) = %v, %v", a, asn, many, got, ok)
		}
	}
	for _, a := range badAttrs() {
		refusedAttrs(a, 7, 1)
	}
	for _, a := range goodAttrs() {
		for _, asn := range []int{0, -1, mostAsn + 1, 1 << 40, math.MinInt, math.MaxInt} {
			refusedAttrs(a, asn, 1)
		}
		for _, many := range []int{0, -1, mostPath + 1, 1 << 40, math.MinInt, math.MaxInt, math.MaxInt - 1, math.MaxInt - 10} {
			refusedAttrs(a, 7, many)
		}
		refusedAttrs(a, 7, mostPath+1-len(a.Path))
	}
}

var behindPrefix = impl.Prefix{Addr: -7, Len: 99}

const behindNumber = -77

func attrsWithBehind(a impl.Attrs) impl.Attrs {
	a.Path = withBehind(a.Path, behindNumber)
	a.Comms = withBehind(a.Comms, behindNumber)
	return a
}

func updateWithBehind(u impl.Update) impl.Update {
	return impl.Update{Gone: withBehind(u.Gone, behindPrefix), Attrs: attrsWithBehind(u.Attrs), Come: withBehind(u.Come, behindPrefix)}
}

// wholeUpdate has also what lies behind the lengths, in memory of its own.
func wholeUpdate(u impl.Update) impl.Update {
	u.Gone, u.Come, u.Attrs = whole(u.Gone), whole(u.Come), wholeAttrs(u.Attrs)
	return u
}

func wholeAttrs(a impl.Attrs) impl.Attrs {
	a.Path, a.Comms = whole(a.Path), whole(a.Comms)
	return a
}

func whole[E any](l []E) []E {
	return slices.Clone(l[:cap(l)])
}

func overwriteUpdate(u impl.Update) {
	overwrite(u.Gone, impl.Prefix{Addr: -9, Len: -9})
	overwrite(u.Come, impl.Prefix{Addr: -9, Len: -9})
	overwriteAttrs(u.Attrs)
}

func overwriteAttrs(a impl.Attrs) {
	overwrite(a.Path, -9)
	overwrite(a.Comms, -9)
}

func TestUpdatesAreNotWrittenIntoNorShared(t *testing.T) {
	for _, u := range append(goodUpdates(), badUpdates()...) {
		given := updateWithBehind(u)
		kept := wholeUpdate(given)
		impl.GoodUpdate(given)
		impl.GoodAttrs(given.Attrs)
		impl.UpdateBytes(given)
		longer, _ := impl.PrependPath(given.Attrs, 7, 1)
		if all := wholeAttrs(longer); slices.Contains(all.Path, behindNumber) || slices.Contains(all.Comms, behindNumber) {
			t.Errorf("PrependPath(%v) = %v hands out what lies behind", given.Attrs, all)
		}
		overwriteAttrs(longer)
		if !sameUpdate(wholeUpdate(given), kept) {
			t.Errorf("%v became %v", kept, wholeUpdate(given))
		}
	}
}

func TestWhatLiesBehindAnUpdatesListsIsNotRead(t *testing.T) {
	for _, u := range goodUpdates() {
		given := updateWithBehind(u)
		if !impl.GoodUpdate(given) || !impl.GoodAttrs(given.Attrs) {
			t.Errorf("%v is not good", u)
		}
		if s, ok := impl.UpdateBytes(given); s != mustBytes(t, u) || !ok {
			t.Errorf("UpdateBytes(%v) = %x, %v", u, s, ok)
		}
		want, wantOk := impl.PrependPath(u.Attrs, 7, 1)
		if got, ok := impl.PrependPath(given.Attrs, 7, 1); !sameAttrs(got, want) || ok != wantOk {
			t.Errorf("PrependPath(%v) = %v, %v, not %v, %v", u.Attrs, got, ok, want, wantOk)
		}
	}
}

// TestListsOfOneAnswerShareNoMemory writes into each list of an answer in turn and looks at the others.
func TestListsOfOneAnswerShareNoMemory(t *testing.T) {
	for _, u := range goodUpdates() {
		s := mustBytes(t, u)
		for turn := range 4 {
			got, _, _ := impl.ReadUpdate(s)
			other, _, _ := impl.ReadUpdate(s)
			want := wholeUpdate(other)
			switch turn {
			case 0:
				overwrite(got.Gone, behindPrefix)
				want.Gone = whole(got.Gone)
			case 1:
				overwrite(got.Attrs.Path, behindNumber)
				want.Attrs.Path = whole(got.Attrs.Path)
			case 2:
				overwrite(got.Attrs.Comms, behindNumber)
				want.Attrs.Comms = whole(got.Attrs.Comms)
			case 3:
				overwrite(got.Come, behindPrefix)
				want.Come = whole(got.Come)
			}
			if !sameUpdate(wholeUpdate(got), want) {
				t.Errorf("ReadUpdate(%x): writing into its list %d makes it %v, not %v", s, turn, wholeUpdate(got), want)
			}
			overwriteUpdate(got)
			if !sameUpdate(other, u) {
				t.Errorf("two answers of ReadUpdate(%x) share memory: %v became %v", s, u, other)
			}
		}
	}
	for _, a := range goodAttrs() {
		got, ok := impl.PrependPath(a, 7, 1)
		if !ok {
			continue
		}
		overwrite(got.Path, behindNumber)
		if !slices.Equal(got.Comms, a.Comms) {
			t.Errorf("PrependPath(%v): writing into its Path makes its Comms %v", a, got.Comms)
		}
	}
}
