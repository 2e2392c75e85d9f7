package impl

import (
	"cmp"
	"strconv"
	"strings"
	"sync"
)

const addrBits = 32
const maxAddr = 1<<addrBits - 1
const addrParts = 4
const partBits = 8
const maxPart = 1<<partBits - 1

type Prefix struct {
	Addr int
	Len  int
}

// sizeOf tells how many addresses a prefix of this length has; the length must be in 0..addrBits.
func sizeOf(length int) int {
	return 1 << (addrBits - length)
}

// The table stands beside sizeOf, filled at its first use; SiblingOf alone reads it.
var sizesMade sync.Once
var sizes [addrBits + 1]int

func makeSizes() {
	sizes = [addrBits + 1]int{
		1 << 32,
		1 << 31, 1 << 30, 1 << 29, 1 << 28, 1 << 27, 1 << 26, 1 << 25, 1 << 24,
		1 << 23, 1 << 22, 1 << 21, 1 << 20, 1 << 19, 1 << 18, 1 << 17, 1 << 16,
		1 << 15, 1 << 14, 1 << 13, 1 << 12, 1 << 11, 1 << 10, 1 << 9, 1 << 8,
		1 << 7, 1 << 6, 1 << 5, 1 << 4, 1 << 3, 1 << 2, 1 << 1, 1 << 0,
	}
}

// sizeInTable takes the table's word only where sizeOf tells the same, so that no answer hangs on what is kept.
func sizeInTable(length int) int {
	sizesMade.Do(makeSizes)
	if size := sizes[length]; size == sizeOf(length) {
		return size
	}
	return sizeOf(length)
}

func isAddr(addr int) bool {
	return 0 <= addr && addr <= maxAddr
}

// prefixAround is the prefix of this length that has the address; both must be in their bounds.
func prefixAround(addr int, length int) Prefix {
	return Prefix{Addr: addr - addr%sizeOf(length), Len: length}
}

func GoodPrefix(p Prefix) bool {
	if p.Len < 0 || p.Len > addrBits || !isAddr(p.Addr) {
		return false
	}
	return p == prefixAround(p.Addr, p.Len)
}

func PrefixText(p Prefix) (string, bool) {
	if !GoodPrefix(p) {
		return "", false
	}
	var parts []string
	for shift := addrBits - partBits; shift >= 0; shift -= partBits {
		parts = append(parts, strconv.Itoa(p.Addr>>shift&maxPart))
	}
	return strings.Join(parts, ".") + "/" + strconv.Itoa(p.Len), true
}

func ReadPrefix(s string) (Prefix, bool) {
	addrText, lenText, _ := strings.Cut(s, "/")
	addr, addrOk := readAddr(addrText)
	length, lenOk := readNumber(lenText, 2)
	p := Prefix{Addr: addr, Len: length}
	if !addrOk || !lenOk || !GoodPrefix(p) {
		return Prefix{}, false
	}
	return p, true
}

func readAddr(s string) (int, bool) {
	parts := strings.SplitN(s, ".", addrParts+1) // one more than is good, so that no text makes a long list
	if len(parts) != addrParts {
		return 0, false
	}
	addr := 0
	for _, part := range parts {
		n, ok := readNumber(part, 3)
		if !ok || n > maxPart {
			return 0, false
		}
		addr = addr<<partBits | n
	}
	return addr, true
}

// readNumber takes a number of at most so many digits; strconv would let signs and needless noughts pass.
func readNumber(s string, mostDigits int) (int, bool) {
	if len(s) == 0 || len(s) > mostDigits || len(s) > 1 && s[0] == '0' {
		return 0, false
	}
	n := 0
	for i := range len(s) {
		if s[i] < '0' || s[i] > '9' {
			return 0, false
		}
		n = 10*n + int(s[i]-'0')
	}
	return n, true
}

func PrefixHas(p Prefix, q Prefix) (bool, bool) {
	if !GoodPrefix(p) || !GoodPrefix(q) {
		return false, false
	}
	return p.Len <= q.Len && p == prefixAround(q.Addr, p.Len), true
}

func HasAddr(p Prefix, addr int) (bool, bool) {
	if !GoodPrefix(p) || !isAddr(addr) {
		return false, false
	}
	return p == prefixAround(addr, p.Len), true
}

func ComparePrefixes(p Prefix, q Prefix) (int, bool) {
	if !GoodPrefix(p) || !GoodPrefix(q) {
		return 0, false
	}
	if p.Addr != q.Addr {
		return cmp.Compare(p.Addr, q.Addr), true
	}
	return cmp.Compare(p.Len, q.Len), true
}

func ParentOf(p Prefix) (Prefix, bool) {
	if !GoodPrefix(p) || p.Len == 0 {
		return Prefix{}, false
	}
	return prefixAround(p.Addr, p.Len-1), true
}

func HalvesOf(p Prefix) (Prefix, Prefix, bool) {
	if !GoodPrefix(p) || p.Len == addrBits {
		return Prefix{}, Prefix{}, false
	}
	longer := p.Len + 1
	lower := Prefix{Addr: p.Addr, Len: longer}
	upper := Prefix{Addr: p.Addr + sizeOf(longer), Len: longer}
	return lower, upper, true
}

// SiblingOf is called by no other function: whatever called it would reach the table too.
func SiblingOf(p Prefix) (Prefix, bool) {
	if !GoodPrefix(p) || p.Len == 0 {
		return Prefix{}, false
	}
	return Prefix{Addr: p.Addr ^ sizeInTable(p.Len), Len: p.Len}, true
}
