package tests

import (
	"fmt"
	"go/ast"
	"go/parser"
	"go/token"
	"math"
	"net/netip"
	"path/filepath"
	"slices"
	"strings"
	"testing"

	"loop.example/g00344/impl"
)

const lastAddr = 4294967295

// goodPrefixes has several prefixes of every length: at both ends of the addresses, in the middle, and with mixed bits.
func goodPrefixes() []impl.Prefix {
	seen := map[impl.Prefix]bool{}
	var l []impl.Prefix
	for length := 0; length <= 32; length++ {
		for _, addr := range []int{0, lastAddr, 1 << 31, 1<<31 - 1, 0x0a010000, 0xc0a80a64, 0x55555555, 0xaaaaaaaa, 0x01ff6309} {
			p := impl.Prefix{Addr: addr >> (32 - length) << (32 - length), Len: length}
			if !seen[p] {
				seen[p] = true
				l = append(l, p)
			}
		}
	}
	return l
}

func firstOf(p impl.Prefix) int { return p.Addr }

func lastOf(p impl.Prefix) int { return p.Addr + 1<<(32-p.Len) - 1 }

// badPrefixes has what is no good prefix, each by one fault alone or by several.
func badPrefixes() []impl.Prefix {
	l := []impl.Prefix{
		{Addr: 0, Len: -1},
		{Addr: 0, Len: 33},
		{Addr: 0, Len: 64},
		{Addr: lastAddr, Len: 33},
		{Addr: 0, Len: math.MinInt},
		{Addr: 0, Len: math.MaxInt},
		{Addr: -1, Len: 0},
		{Addr: -1, Len: 32},
		{Addr: -(1 << 31), Len: 1},
		{Addr: -(1 << 32), Len: 0},
		{Addr: 1 << 32, Len: 0},
		{Addr: 1 << 32, Len: 32},
		{Addr: 1<<32 + 1<<31, Len: 1},
		{Addr: 1 << 40, Len: 8},
		{Addr: math.MinInt, Len: 0},
		{Addr: math.MaxInt, Len: 32},
		{Addr: math.MinInt, Len: math.MinInt},
		{Addr: math.MaxInt, Len: math.MaxInt},
		{Addr: math.MinInt, Len: math.MaxInt},
		{Addr: 1, Len: 0},
		{Addr: 1 << 31, Len: 0},
		{Addr: lastAddr, Len: 31},
	}
	for length := 0; length < 32; length++ {
		l = append(l, impl.Prefix{Addr: 1, Len: length}, impl.Prefix{Addr: 1 << (31 - length), Len: length})
	}
	return l
}

func badAddrs() []int {
	return []int{-1, lastAddr + 1, -lastAddr, 1 << 40, math.MinInt, math.MaxInt}
}

func TestGoodPrefix(t *testing.T) {
	for _, p := range goodPrefixes() {
		if !impl.GoodPrefix(p) {
			t.Errorf("%v is good", p)
		}
	}
	for _, p := range badPrefixes() {
		if impl.GoodPrefix(p) {
			t.Errorf("%v is not good", p)
		}
	}
}

func TestTextsThatAreKnown(t *testing.T) {
	known := map[string]impl.Prefix{
		"0.0.0.0/0":          {},
		"0.0.0.0/32":         {Addr: 0, Len: 32},
		"128.0.0.0/1":        {Addr: 1 << 31, Len: 1},
		"10.0.0.0/8":         {Addr: 10 << 24, Len: 8},
		"10.1.0.0/16":        {Addr: 10<<24 | 1<<16, Len: 16},
		"192.168.100.0/22":   {Addr: 192<<24 | 168<<16 | 100<<8, Len: 22},
		"1.2.3.4/32":         {Addr: 1<<24 | 2<<16 | 3<<8 | 4, Len: 32},
		"1.2.3.4/30":         {Addr: 1<<24 | 2<<16 | 3<<8 | 4, Len: 30},
		"255.255.255.255/32": {Addr: lastAddr, Len: 32},
		"255.255.255.254/31": {Addr: lastAddr - 1, Len: 31},
	}
	for text, p := range known {
		if s, ok := impl.PrefixText(p); s != text || !ok {
			t.Errorf("PrefixText(%v) = %q, %v, not %q", p, s, ok, text)
		}
		if q, ok := impl.ReadPrefix(text); q != p || !ok {
			t.Errorf("ReadPrefix(%q) = %v, %v, not %v", text, q, ok, p)
		}
	}
}

func TestPrefixesComeBackFromTheirTexts(t *testing.T) {
	for _, p := range goodPrefixes() {
		want := fmt.Sprintf("%d.%d.%d.%d/%d", p.Addr>>24, p.Addr>>16&255, p.Addr>>8&255, p.Addr&255, p.Len)
		s, ok := impl.PrefixText(p)
		if s != want || !ok {
			t.Errorf("PrefixText(%v) = %q, %v, not %q", p, s, ok, want)
		}
		if q, ok := impl.ReadPrefix(s); q != p || !ok {
			t.Errorf("ReadPrefix(%q) = %v, %v, not %v", s, q, ok, p)
		}
	}
}

func TestTextsThatAreNoPrefixAreRefused(t *testing.T) {
	bad := []string{
		"", "/", ".", ".../", "0", "0/0", "/0", "10.1.0.0", "10.1.0.0/",
		"010.1.0.0/16", "10.01.0.0/16", "10.1.00.0/16", "10.1.0.00/16", "10.1.0.000/16", "10.1.0.0/016", "10.1.0.0/00", "0.0.0.0/00", "1.0.0.0/08",
		"256.0.0.0/8", "10.256.0.0/16", "10.1.256.0/24", "10.1.0.256/32", "999.0.0.0/8", "1000.0.0.0/8", "4294967296.0.0.0/32", "18446744073709551616.0.0.0/32",
		"0.0.0.0/33", "0.0.0.0/64", "0.0.0.0/99", "0.0.0.0/100", "0.0.0.0/4294967296", "0.0.0.0/18446744073709551616", "255.255.255.255/33",
		"10.1.0.1/16", "10.1.128.0/16", "128.0.0.0/0", "0.0.0.1/0", "0.0.0.1/31", "255.255.255.255/31", "1.0.0.0/7",
		"10.1.0/16", "10.1/16", "10/8", "10.1.0.0.0/16", "10.1.0.0.0.0/16", "0.10.1.0.0/16", "0.0.0.0.0/0", "0.0.10.1.0.0/16", "10.1.0.0/16/16", "10.1.0.0//16", "10.1.0.0/16/", "10..1.0.0/16", ".10.1.0.0/16", "10.1.0.0./16", "10.1.0./16", ".1.0.0/16", "10.1.0.0/1.6",
		"+10.1.0.0/16", "10.+1.0.0/16", "-10.1.0.0/16", "10.1.0.-0/16", "10.1.0.0/+16", "10.1.0.0/-16", "10.1.0.0/-0", "0.0.0.0/-1",
		" 10.1.0.0/16", "10.1.0.0/16 ", "10.1.0.0 /16", "10.1.0.0/ 16", "10. 1.0.0/16", "10.1.0.0/16\n", "\t10.1.0.0/16", "10.1.0.0/16\x00", "10 .1.0.0/16",
		"a.1.0.0/16", "10.1.0.0/a", "0x0a.1.0.0/16", "10.1.0.0/1e1", "10.1.0.0/1_6", "10,1,0,0/16", "10.1.0.0\\16", "10.1.0.:/16", "10.1.0.//16",
		"\u0661.0.0.0/8", "10.1.0.0/\uff11\uff16", "\xff\xfe.0.0.0/8",
		"::/0", "::ffff:10.1.0.0/112",
		strings.Repeat("0", 100) + ".0.0.0/0", strings.Repeat(".", 1<<16), strings.Repeat("/", 1<<16), strings.Repeat("1", 1<<16), "0.0.0.0/" + strings.Repeat("0", 1<<16),
	}
	for _, s := range bad {
		if p, ok := impl.ReadPrefix(s); p != (impl.Prefix{}) || ok {
			t.Errorf("ReadPrefix(%.40q) = %v, %v", s, p, ok)
		}
	}
}

// readByLibrary is what the library tells of a text, which takes the same form.
func readByLibrary(s string) (impl.Prefix, bool) {
	p, err := netip.ParsePrefix(s)
	if err != nil || !p.Addr().Is4() || p != p.Masked() {
		return impl.Prefix{}, false
	}
	b := p.Addr().As4()
	return impl.Prefix{Addr: int(b[0])<<24 | int(b[1])<<16 | int(b[2])<<8 | int(b[3]), Len: p.Bits()}, true
}

func TestTextsOneByteAsideAreReadAsTheLibraryDoes(t *testing.T) {
	look := func(s string) {
		want, wantOk := readByLibrary(s)
		if p, ok := impl.ReadPrefix(s); p != want || ok != wantOk {
			t.Errorf("ReadPrefix(%q) = %v, %v, not %v, %v", s, p, ok, want, wantOk)
		}
	}
	for _, s := range []string{"0.0.0.0/0", "10.1.0.0/16", "255.255.255.255/32", "192.168.100.0/22", "200.9.99.128/25"} {
		for i := 0; i <= len(s); i++ {
			look(s[:i])
			look(s[i:])
			for b := 0; b < 256; b++ {
				look(s[:i] + string([]byte{byte(b)}) + s[i:])
				if i < len(s) {
					look(s[:i] + string([]byte{byte(b)}) + s[i+1:])
				}
			}
			if i < len(s) {
				look(s[:i] + s[i+1:])
			}
		}
	}
}

func TestBothHalvesAreAllOfAPrefix(t *testing.T) {
	for _, p := range goodPrefixes() {
		if p.Len == 32 {
			continue
		}
		lower, upper, ok := impl.HalvesOf(p)
		if !ok || !impl.GoodPrefix(lower) || !impl.GoodPrefix(upper) || lower.Len != p.Len+1 || upper.Len != p.Len+1 {
			t.Fatalf("HalvesOf(%v) = %v, %v, %v", p, lower, upper, ok)
		}
		if firstOf(lower) != firstOf(p) || lastOf(lower)+1 != firstOf(upper) || lastOf(upper) != lastOf(p) {
			t.Errorf("HalvesOf(%v) = %v, %v: not all of it, the lower one first", p, lower, upper)
		}
		for _, addr := range []int{firstOf(p), lastOf(lower), firstOf(upper), lastOf(p)} {
			inLower, _ := impl.HasAddr(lower, addr)
			inUpper, _ := impl.HasAddr(upper, addr)
			if inLower == inUpper {
				t.Errorf("HalvesOf(%v): %d is in both or in none", p, addr)
			}
		}
		if s, ok := impl.SiblingOf(lower); s != upper || !ok {
			t.Errorf("SiblingOf(%v) = %v, %v, not %v", lower, s, ok, upper)
		}
		if s, ok := impl.SiblingOf(upper); s != lower || !ok {
			t.Errorf("SiblingOf(%v) = %v, %v, not %v", upper, s, ok, lower)
		}
		for _, half := range []impl.Prefix{lower, upper} {
			if q, ok := impl.ParentOf(half); q != p || !ok {
				t.Errorf("ParentOf(%v) = %v, %v, not %v", half, q, ok, p)
			}
		}
	}
}

func TestParentAndSiblingOfEachPrefix(t *testing.T) {
	for _, p := range goodPrefixes() {
		if p.Len == 0 {
			continue
		}
		own := 1 << (32 - p.Len) // the last bit of the prefix
		if q, ok := impl.ParentOf(p); q != (impl.Prefix{Addr: p.Addr &^ own, Len: p.Len - 1}) || !ok {
			t.Errorf("ParentOf(%v) = %v, %v", p, q, ok)
		}
		if q, ok := impl.SiblingOf(p); q != (impl.Prefix{Addr: p.Addr ^ own, Len: p.Len}) || !ok {
			t.Errorf("SiblingOf(%v) = %v, %v", p, q, ok)
		}
	}
}

func TestHasAddrAtTheEndsAndBesideThem(t *testing.T) {
	for _, p := range goodPrefixes() {
		first, last := firstOf(p), lastOf(p)
		for _, addr := range []int{first, last, first + (last-first)/2} {
			if has, ok := impl.HasAddr(p, addr); !has || !ok {
				t.Errorf("HasAddr(%v, %d) = %v, %v", p, addr, has, ok)
			}
		}
		for _, addr := range []int{first - 1, last + 1} {
			isOne := addr >= 0 && addr <= lastAddr
			if has, ok := impl.HasAddr(p, addr); has || ok != isOne {
				t.Errorf("HasAddr(%v, %d) = %v, %v", p, addr, has, ok)
			}
		}
	}
}

func TestPrefixHasAtTheEndsAndBesideThem(t *testing.T) {
	for _, p := range goodPrefixes() {
		look := func(q impl.Prefix, want bool) {
			if has, ok := impl.PrefixHas(p, q); has != want || !ok {
				t.Errorf("PrefixHas(%v, %v) = %v, %v", p, q, has, ok)
			}
		}
		look(p, true)
		look(impl.Prefix{Addr: firstOf(p), Len: 32}, true)
		look(impl.Prefix{Addr: lastOf(p), Len: 32}, true)
		if p.Addr > 0 {
			look(impl.Prefix{Addr: firstOf(p) - 1, Len: 32}, false)
			look(impl.Prefix{Addr: firstOf(p) - 1<<(32-p.Len), Len: p.Len}, false)
		}
		if lastOf(p) < lastAddr {
			look(impl.Prefix{Addr: lastOf(p) + 1, Len: 32}, false)
			look(impl.Prefix{Addr: lastOf(p) + 1, Len: p.Len}, false)
		}
	}
}

func TestPrefixHasIsThatOfTheAddresses(t *testing.T) {
	l := goodPrefixes()
	for _, p := range l {
		for _, q := range l {
			want := firstOf(p) <= firstOf(q) && lastOf(q) <= lastOf(p)
			if has, ok := impl.PrefixHas(p, q); has != want || !ok {
				t.Errorf("PrefixHas(%v, %v) = %v, %v, not %v", p, q, has, ok, want)
			}
		}
	}
}

func TestComparePrefixesByAddrThenByLen(t *testing.T) {
	rising := []impl.Prefix{
		{Addr: 0, Len: 0},
		{Addr: 0, Len: 1},
		{Addr: 0, Len: 32},
		{Addr: 1, Len: 32},
		{Addr: 2, Len: 31},
		{Addr: 2, Len: 32},
		{Addr: 10 << 24, Len: 7},
		{Addr: 10 << 24, Len: 8},
		{Addr: 10 << 24, Len: 16},
		{Addr: 11 << 24, Len: 8},
		{Addr: 1 << 31, Len: 1},
		{Addr: 1 << 31, Len: 2},
		{Addr: lastAddr - 1, Len: 31},
		{Addr: lastAddr, Len: 32},
	}
	for i, p := range rising {
		for j, q := range rising {
			want := 0
			if i < j {
				want = -1
			} else if i > j {
				want = 1
			}
			if n, ok := impl.ComparePrefixes(p, q); n != want || !ok {
				t.Errorf("ComparePrefixes(%v, %v) = %d, %v, not %d", p, q, n, ok, want)
			}
		}
	}
}

func TestEndsWithoutParentSiblingOrHalves(t *testing.T) {
	none := impl.Prefix{}
	if q, ok := impl.ParentOf(impl.Prefix{Len: 0}); q != none || ok {
		t.Error("ParentOf", q, ok)
	}
	if q, ok := impl.SiblingOf(impl.Prefix{Len: 0}); q != none || ok {
		t.Error("SiblingOf", q, ok)
	}
	for _, addr := range []int{0, 1, 10 << 24, lastAddr} {
		if a, b, ok := impl.HalvesOf(impl.Prefix{Addr: addr, Len: 32}); a != none || b != none || ok {
			t.Error("HalvesOf", addr, a, b, ok)
		}
	}
}

func TestZeroAnswersOfPrefixesThatAreNotGood(t *testing.T) {
	none := impl.Prefix{}
	for _, p := range badPrefixes() {
		if s, ok := impl.PrefixText(p); s != "" || ok {
			t.Errorf("PrefixText(%v) = %q, %v", p, s, ok)
		}
		if q, ok := impl.ParentOf(p); q != none || ok {
			t.Errorf("ParentOf(%v) = %v, %v", p, q, ok)
		}
		if q, ok := impl.SiblingOf(p); q != none || ok {
			t.Errorf("SiblingOf(%v) = %v, %v", p, q, ok)
		}
		if a, b, ok := impl.HalvesOf(p); a != none || b != none || ok {
			t.Errorf("HalvesOf(%v) = %v, %v, %v", p, a, b, ok)
		}
		for _, addr := range append(badAddrs(), 0, 1, 10<<24, lastAddr, p.Addr) {
			if has, ok := impl.HasAddr(p, addr); has || ok {
				t.Errorf("HasAddr(%v, %d) = %v, %v", p, addr, has, ok)
			}
		}
	}
}

func TestZeroAnswersOfPairsThatAreNotGood(t *testing.T) {
	look := func(p, q impl.Prefix) {
		if has, ok := impl.PrefixHas(p, q); has || ok {
			t.Errorf("PrefixHas(%v, %v) = %v, %v", p, q, has, ok)
		}
		if n, ok := impl.ComparePrefixes(p, q); n != 0 || ok {
			t.Errorf("ComparePrefixes(%v, %v) = %d, %v", p, q, n, ok)
		}
	}
	for _, bad := range badPrefixes() {
		for _, good := range goodPrefixes() {
			look(bad, good)
			look(good, bad)
		}
		for _, other := range badPrefixes() {
			look(bad, other)
		}
	}
}

func TestZeroAnswerOfAnAddressThatIsNone(t *testing.T) {
	for _, p := range goodPrefixes() {
		for _, addr := range badAddrs() {
			if has, ok := impl.HasAddr(p, addr); has || ok {
				t.Errorf("HasAddr(%v, %d) = %v, %v", p, addr, has, ok)
			}
		}
	}
}

// usersOf tells, for each name, the functions of the program in which it stands.
func usersOf(t *testing.T) map[string][]string {
	files, err := filepath.Glob("../impl/*.go")
	if err != nil || len(files) == 0 {
		t.Fatal(files, err)
	}
	users := map[string][]string{}
	for _, file := range files {
		parsed, err := parser.ParseFile(token.NewFileSet(), file, nil, parser.SkipObjectResolution)
		if err != nil {
			t.Fatal(err)
		}
		for _, d := range parsed.Decls {
			f, ok := d.(*ast.FuncDecl)
			if !ok || f.Body == nil {
				continue
			}
			ast.Inspect(f.Body, func(n ast.Node) bool {
				if id, ok := n.(*ast.Ident); ok && !slices.Contains(users[id.Name], f.Name.Name) {
					users[id.Name] = append(users[id.Name], f.Name.Name)
				}
				return true
			})
		}
	}
	return users
}

func TestSiblingOfAloneReachesTheTableThatIsMadeOnce(t *testing.T) {
	users := usersOf(t)
	for name, may := range map[string][]string{
		"sizesMade":   {"sizeInTable"},
		"sizes":       {"makeSizes", "sizeInTable"},
		"makeSizes":   {"sizeInTable"},
		"sizeInTable": {"SiblingOf"},
		"SiblingOf":   nil,
	} {
		got := slices.Sorted(slices.Values(users[name]))
		if !slices.Equal(got, may) {
			t.Errorf("%s stands in %v, not in %v", name, got, may)
		}
	}
}

func TestSiblingsAskedForAtTheSameTime(t *testing.T) {
	l := goodPrefixes()
	done := make(chan string)
	for range 8 {
		go func() {
			fault := ""
			for _, p := range l {
				want := impl.Prefix{Addr: p.Addr ^ 1<<(32-p.Len), Len: p.Len}
				if q, ok := impl.SiblingOf(p); p.Len > 0 && (q != want || !ok) {
					fault = fmt.Sprintf("SiblingOf(%v) = %v, %v", p, q, ok)
				}
			}
			done <- fault
		}()
	}
	for range 8 {
		if fault := <-done; fault != "" {
			t.Error(fault)
		}
	}
}
