package tests

import (
	"go/ast"
	"go/parser"
	"go/token"
	"maps"
	"math"
	"math/rand"
	"path/filepath"
	"slices"
	"strings"
	"testing"

	"loop.example/g00344/impl"
)

const mostBody = 60
const mostFeed = 300
const mostGot = 40
const mostPieces = 60

const alive = "\xff\xff\x05\x00\x04"

func sameReader(a, b impl.Reader) bool {
	return a.Rest == b.Rest && slices.Equal(a.Got, b.Got) && a.Bad == b.Bad
}

func isZeroReader(r impl.Reader) bool {
	return sameReader(r, impl.Reader{})
}

func TestLimitsOfTheStreamAreAsSaid(t *testing.T) {
	if impl.MaxBody != mostBody || impl.MaxFeed != mostFeed {
		t.Error(impl.MaxBody, impl.MaxFeed)
	}
	if impl.MsgOpen != 1 || impl.MsgUpdate != 2 || impl.MsgNotify != 3 || impl.MsgAlive != 4 {
		t.Error(impl.MsgOpen, impl.MsgUpdate, impl.MsgNotify, impl.MsgAlive)
	}
}

// goodMsgs has each Type; Bodies of none, one and as many bytes as there may be, and such as look like heads.
func goodMsgs() []impl.Msg {
	l := []impl.Msg{{Type: impl.MsgAlive}}
	for _, kind := range []int{impl.MsgOpen, impl.MsgUpdate, impl.MsgNotify} {
		for _, body := range []string{"", "a", "\x00", "\xff", "ab", alive, "\xff\xff", "\xff\xff\x05\x00\x09", strings.Repeat("\xff", 59), strings.Repeat("b", mostBody), strings.Repeat(alive, 12)} {
			l = append(l, impl.Msg{Type: kind, Body: body})
		}
	}
	return l
}

func badMsgs() []impl.Msg {
	var l []impl.Msg
	for _, kind := range []int{0, -1, 5, 255, 256, 257, 260, 1<<32 + 1, math.MinInt, math.MaxInt} {
		for _, body := range []string{"", "a", strings.Repeat("b", mostBody), strings.Repeat("b", mostBody+1)} {
			l = append(l, impl.Msg{Type: kind, Body: body})
		}
	}
	for _, kind := range []int{impl.MsgOpen, impl.MsgUpdate, impl.MsgNotify, impl.MsgAlive} {
		for _, many := range []int{mostBody + 1, mostBody + 2, 250, 251, 256, 256 + mostBody, 70000} {
			l = append(l, impl.Msg{Type: kind, Body: strings.Repeat("\x00", many)})
		}
	}
	for _, many := range []int{1, 2, mostBody} {
		l = append(l, impl.Msg{Type: impl.MsgAlive, Body: strings.Repeat("a", many)})
	}
	return l
}

// bytesOf writes a message by hand, also one that is not good.
func bytesOf(m impl.Msg) string {
	return string([]byte{255, 255, byte(5 + len(m.Body)), 0, byte(m.Type)}) + m.Body
}

func streamOf(l ...impl.Msg) string {
	s := ""
	for _, m := range l {
		s += bytesOf(m)
	}
	return s
}

// byteReader goes by the document's words, but a byte at a time: it knows no pieces, and so no cuts.
type byteReader struct {
	held []byte
	told []impl.Msg
	code int
}

func (b *byteReader) take(one byte) {
	if b.code != 0 {
		return
	}
	b.held = append(b.held, one)
	long := 0
	if len(b.held) >= 3 {
		long = int(b.held[2])
	}
	switch len(b.held) {
	case 1, 2:
		b.refuse(one != 255, 1)
	case 3:
		b.refuse(one < 5 || one > 65, 2)
	case 4:
		b.refuse(one > 0, 2)
	case 5:
		b.refuse(one == 0 || one > 4, 3)
		b.refuse(one == 4 && long > 5, 4)
	}
	if len(b.held) >= 5 && len(b.held) == long {
		b.told = append(b.told, impl.Msg{Type: int(b.held[4]), Body: string(b.held[5:])})
		b.held = nil
	}
}

func (b *byteReader) refuse(bad bool, code int) {
	if bad {
		b.held, b.code = nil, code
	}
}

func cutByWords(s string) ([]impl.Msg, string, int) {
	var b byteReader
	for i := range len(s) {
		b.take(s[i])
	}
	return b.told, string(b.held), b.code
}

func readerByWords(s string) impl.Reader {
	told, rest, code := cutByWords(s)
	got := append([]impl.Msg{{Type: impl.MsgAlive}}, told...)
	return impl.Reader{Rest: rest, Got: got[:min(len(got), mostGot)], Bad: code}
}

// byteAtATime cuts by bytes, where strings.Split would go by runes.
func byteAtATime(s string) []string {
	var l []string
	for i := range len(s) {
		l = append(l, s[i:i+1])
	}
	return l
}

func inPiecesOf(s string, long int) []string {
	var l []string
	for len(s) > long {
		l = append(l, s[:long])
		s = s[long:]
	}
	return append(l, s)
}

func emptyBetween(l []string) []string {
	out := []string{"", ""}
	for _, s := range l {
		out = append(out, s, "")
	}
	return out
}

func mixedPieces(s string, r *rand.Rand) []string {
	var l []string
	for s != "" {
		long := r.Intn(min(len(s), 1+r.Intn(80)) + 1)
		l = append(l, s[:long])
		s = s[long:]
	}
	return l
}

// lookAtPieces feeds a reader piece by piece, and all at once where there are not too many.
func lookAtPieces(t *testing.T, l []string, want impl.Reader) {
	t.Helper()
	r := impl.NewReader()
	for i, s := range l {
		fed, ok := impl.FeedReader(r, s)
		if !ok || !impl.GoodReader(fed) {
			t.Errorf("piece %d of %x: %#v, %#v", i, l, fed, ok)
		}
		r = fed
	}
	if !sameReader(r, want) {
		t.Errorf("%x: read as %#v, not %#v", l, r, want)
	}
	if len(l) > mostPieces {
		return
	}
	if r, ok := impl.FeedAll(l); !sameReader(r, want) || !ok {
		t.Errorf("FeedAll(%x) = %#v, %#v, not %#v", l, r, ok, want)
	}
}

// lookAtCuts holds a stream, however it is cut, against what is wanted of it.
func lookAtCuts(t *testing.T, s string, want impl.Reader, r *rand.Rand) {
	t.Helper()
	for _, long := range []int{1, 2, 3, 4, 5, 7, 64, 65, 66, mostFeed - 1, mostFeed} {
		lookAtPieces(t, inPiecesOf(s, long), want)
	}
	lookAtPieces(t, byteAtATime(s), want)
	lookAtPieces(t, emptyBetween(byteAtATime(s)), want)
	lookAtPieces(t, emptyBetween(inPiecesOf(s, 9)), want)
	for at := range len(s) + 1 {
		if at <= mostFeed && len(s)-at <= mostFeed {
			lookAtPieces(t, []string{s[:at], s[at:]}, want)
			lookAtPieces(t, emptyBetween([]string{s[:at], s[at:]}), want)
		}
	}
	for range 5 {
		lookAtPieces(t, mixedPieces(s, r), want)
	}
}

func mixedMsgs(many int, r *rand.Rand) []impl.Msg {
	all := goodMsgs()
	var l []impl.Msg
	for range many {
		m := all[r.Intn(len(all))]
		if r.Intn(2) == 0 {
			m = impl.Msg{Type: 1 + r.Intn(3), Body: string(mixedBytes(r.Intn(mostBody+1), r))}
		}
		l = append(l, m)
	}
	return l
}

func mixedBytes(many int, r *rand.Rand) []byte {
	b := make([]byte, many)
	for i := range b {
		b[i] = []byte{255, 255, 0, 4, 5, byte(r.Intn(256))}[r.Intn(6)]
	}
	return b
}

// goodStreams are rows of whole messages.
func goodStreams() [][]impl.Msg {
	r := rand.New(rand.NewSource(5))
	all := goodMsgs()
	l := [][]impl.Msg{nil, all[:8], slices.Repeat(all[:1], 9)}
	for _, m := range all {
		l = append(l, []impl.Msg{m}, []impl.Msg{m, m}, []impl.Msg{all[0], m, all[0]})
	}
	for i := range 40 {
		l = append(l, mixedMsgs(1+i%8, r))
	}
	return l
}

func TestMessagesAreGoodByTheirWords(t *testing.T) {
	for _, m := range goodMsgs() {
		if !impl.GoodMsg(m) {
			t.Errorf("%#v is not good", m)
		}
	}
	for kind := 1; kind <= 3; kind++ {
		for many := range mostBody + 10 {
			if good := impl.GoodMsg(impl.Msg{Type: kind, Body: strings.Repeat("x", many)}); good != (many <= mostBody) {
				t.Errorf("type %d, %d bytes: %#v", kind, many, good)
			}
		}
	}
	for _, m := range badMsgs() {
		if impl.GoodMsg(m) {
			t.Errorf("%#v is good", m)
		}
		if s, ok := impl.MsgBytes(m); s != "" || ok {
			t.Errorf("MsgBytes(%#v) = %x, %#v", m, s, ok)
		}
	}
}

func TestMsgBytesAreOneMessageOfCutAll(t *testing.T) {
	for _, m := range append(goodMsgs(), mixedMsgs(300, rand.New(rand.NewSource(55)))...) {
		s, ok := impl.MsgBytes(m)
		if s != bytesOf(m) || !ok {
			t.Errorf("MsgBytes(%#v) = %x, %#v, not %x", m, s, ok, bytesOf(m))
		}
		told, rest, code, ok := impl.CutAll(s)
		if !slices.Equal(told, []impl.Msg{m}) || rest != "" || code != 0 || !ok {
			t.Errorf("CutAll(%x) = %#v, %x, %d, %#v, not %#v", s, told, rest, code, ok, m)
		}
	}
}

func TestMsgBytesThatAreKnown(t *testing.T) {
	for s, m := range map[string]impl.Msg{
		alive:                      {Type: impl.MsgAlive},
		"\xff\xff\x05\x00\x01":     {Type: impl.MsgOpen},
		"\xff\xff\x05\x00\x03":     {Type: impl.MsgNotify},
		"\xff\xff\x06\x00\x02\xff": {Type: impl.MsgUpdate, Body: "\xff"},
		"\xff\xff\x07\x00\x01ab":   {Type: impl.MsgOpen, Body: "ab"},
		"\xff\xff\x41\x00\x03" + strings.Repeat("z", mostBody): {Type: impl.MsgNotify, Body: strings.Repeat("z", mostBody)},
	} {
		if got, ok := impl.MsgBytes(m); got != s || !ok {
			t.Errorf("MsgBytes(%#v) = %x, %#v, not %x", m, got, ok, s)
		}
	}
}

func TestStreamsOfGoodMessagesComeBackWhateverTheCuts(t *testing.T) {
	r := rand.New(rand.NewSource(555))
	for _, l := range goodStreams() {
		want := impl.Reader{Got: append([]impl.Msg{{Type: impl.MsgAlive}}, l...)}
		lookAtCuts(t, streamOf(l...), want, r)
	}
}

func TestStreamsThatEndWithinAMessageComeBackWhateverTheCuts(t *testing.T) {
	r := rand.New(rand.NewSource(556))
	for _, ahead := range [][]impl.Msg{nil, {{Type: impl.MsgUpdate, Body: "xyz"}}, {{Type: impl.MsgAlive}, {Type: impl.MsgOpen, Body: "\xff\xff"}}} {
		for _, m := range []impl.Msg{{Type: impl.MsgAlive}, {Type: impl.MsgOpen}, {Type: impl.MsgNotify, Body: "a"}, {Type: impl.MsgUpdate, Body: strings.Repeat("\xff", mostBody)}} {
			s := bytesOf(m)
			for end := range len(s) {
				want := impl.Reader{Rest: s[:end], Got: append([]impl.Msg{{Type: impl.MsgAlive}}, ahead...)}
				lookAtCuts(t, streamOf(ahead...)+s[:end], want, r)
			}
		}
	}
}

// faults has the beginnings at whose last byte a code is told, and none ahead of it.
func faults() map[string]int {
	all := map[string]int{}
	for b := range 256 {
		one := string([]byte{byte(b)})
		if b != 255 {
			all[one] = 1
			all["\xff"+one] = 1
		}
		if b < 5 || b > 5+mostBody {
			all["\xff\xff"+one] = 2
		}
		if b != 0 {
			all["\xff\xff\x05"+one] = 2
			all["\xff\xff\x41"+one] = 2
		}
		if b < 1 || b > 4 {
			all["\xff\xff\x05\x00"+one] = 3
			all["\xff\xff\x06\x00"+one] = 3
			all["\xff\xff\x41\x00"+one] = 3
		}
		if b > 5 && b <= 5+mostBody {
			all["\xff\xff"+one+"\x00\x04"] = 4
		}
	}
	return all
}

func TestFaultsAreToldAtTheirFirstByte(t *testing.T) {
	aheads := [][]impl.Msg{nil, {{Type: impl.MsgAlive}}, {{Type: impl.MsgUpdate, Body: "ab"}, {Type: impl.MsgOpen, Body: alive}}}
	for s, code := range faults() {
		for _, l := range aheads {
			ahead := streamOf(l...)
			for _, behind := range []string{"", "\x00", "\xff", "\xff\xff\x05\x00\x04", strings.Repeat("a", 70)} {
				told, rest, got, ok := impl.CutAll(ahead + s + behind)
				if !slices.Equal(told, l) || rest != "" || got != code || !ok {
					t.Errorf("CutAll(%x) = %#v, %x, %d, %#v, not %#v, %d", ahead+s+behind, told, rest, got, ok, l, code)
				}
			}
			sound := s[:len(s)-1]
			told, rest, got, ok := impl.CutAll(ahead + sound)
			if !slices.Equal(told, l) || rest != sound || got != 0 || !ok {
				t.Errorf("CutAll(%x) = %#v, %x, %d, %#v, not %#v, %x", ahead+sound, told, rest, got, ok, l, sound)
			}
		}
	}
}

func TestStreamsWithAFaultAreReadAlikeWhateverTheCuts(t *testing.T) {
	r := rand.New(rand.NewSource(557))
	told := faults()
	for i, s := range slices.Sorted(maps.Keys(told)) {
		code := told[s]
		ahead := mixedMsgs(i%4, r)
		for _, behind := range []string{"", alive, "\xff"} {
			want := impl.Reader{Got: append([]impl.Msg{{Type: impl.MsgAlive}}, ahead...), Bad: code}
			stream := streamOf(ahead...) + s + behind
			lookAtPieces(t, byteAtATime(stream), want)
			lookAtPieces(t, mixedPieces(stream, r), want)
			lookAtPieces(t, emptyBetween(inPiecesOf(stream, 7)), want)
			for at := len(stream) - len(s) - len(behind); at <= len(stream); at++ {
				lookAtPieces(t, []string{stream[:at], stream[at:]}, want)
			}
		}
	}
}

func TestFaultsThatAreKnown(t *testing.T) {
	for _, k := range []struct {
		name string
		s    string
		told int
		rest string
		code int
	}{
		{"nothing", "", 0, "", 0},
		{"one alive", alive, 1, "", 0},
		{"an alive and a first byte", alive + "\xff", 1, "\xff", 0},
		{"an alive and a wrong byte", alive + "\x00", 1, "", 1},
		{"a wrong second byte", "\xff\xfe", 0, "", 1},
		{"a first byte counts ahead of a length", "\x00\xff\x00", 0, "", 1},
		{"a length of 4", "\xff\xff\x04", 0, "", 2},
		{"a length of 5", "\xff\xff\x05", 0, "\xff\xff\x05", 0},
		{"a length of 65", "\xff\xff\x41", 0, "\xff\xff\x41", 0},
		{"a length of 66", "\xff\xff\x42", 0, "", 2},
		{"a length of 66 ahead of a wrong fourth and type", "\xff\xff\x42\x01\x09", 0, "", 2},
		{"a wrong fourth ahead of a wrong type", "\xff\xff\x05\x01\x09", 0, "", 2},
		{"type 0", "\xff\xff\x05\x00\x00", 0, "", 3},
		{"type 5", "\xff\xff\x06\x00\x05", 0, "", 3},
		{"a long alive, its body not there", "\xff\xff\x06\x00\x04", 0, "", 4},
		{"a long alive, whole", "\xff\xff\x06\x00\x04a", 0, "", 4},
		{"a long alive, its type not there", "\xff\xff\x06\x00", 0, "\xff\xff\x06\x00", 0},
		{"an open of which one byte is missing", "\xff\xff\x07\x00\x01a", 0, "\xff\xff\x07\x00\x01a", 0},
		{"an open and one byte more", "\xff\xff\x07\x00\x01abc", 1, "", 1},
		{"60 alives", strings.Repeat(alive, 60), 60, "", 0},
		{"59 alives and a fault at the last byte", strings.Repeat(alive, 59) + alive[:4] + "\x07", 59, "", 3},
	} {
		told, rest, code, ok := impl.CutAll(k.s)
		if len(told) != k.told || rest != k.rest || code != k.code || !ok {
			t.Errorf("%s: CutAll(%x) = %#v, %x, %d, %#v", k.name, k.s, told, rest, code, ok)
		}
	}
}

func TestCutAllGoesByItsWords(t *testing.T) {
	r := rand.New(rand.NewSource(558))
	look := func(s string) {
		t.Helper()
		want, wantRest, wantCode := cutByWords(s)
		told, rest, code, ok := impl.CutAll(s)
		if !slices.Equal(told, want) || rest != wantRest || code != wantCode || !ok {
			t.Errorf("CutAll(%x) = %#v, %x, %d, %#v, not %#v, %x, %d", s, told, rest, code, ok, want, wantRest, wantCode)
		}
	}
	for range 20000 {
		s := streamOf(mixedMsgs(r.Intn(4), r)...) + string(mixedBytes(r.Intn(8), r))
		look(s)
		if len(s) > 0 {
			at := r.Intn(len(s))
			look(s[:at] + string(mixedBytes(1, r)) + s[at+1:])
			look(s[:at])
			look(s[at:])
		}
	}
	for i := range 256 {
		for j := range 256 {
			look(string([]byte{byte(i), byte(j)}))
			look(string([]byte{255, 255, byte(i), byte(j)}))
			look(string([]byte{255, 255, byte(i), 0, byte(j)}))
			look(string([]byte{255, 255, byte(i), 0, byte(j), 255}))
		}
	}
}

func TestPiecesAtRandomAreReadAsOneStream(t *testing.T) {
	r := rand.New(rand.NewSource(559))
	for range 4000 {
		s := streamOf(mixedMsgs(r.Intn(6), r)...) + string(mixedBytes(r.Intn(30), r))
		if len(s) > 0 && r.Intn(2) == 0 {
			at := r.Intn(len(s))
			s = s[:at] + string(mixedBytes(1, r)) + s[at+1:]
		}
		lookAtPieces(t, mixedPieces(s, r), readerByWords(s))
	}
}

func TestMoreThanMaxFeedBytes(t *testing.T) {
	full := strings.Repeat(alive, mostFeed/5)
	if told, rest, code, ok := impl.CutAll(full); len(told) != 60 || rest != "" || code != 0 || !ok {
		t.Errorf("CutAll of 300 bytes: %#v, %x, %d, %#v", told, rest, code, ok)
	}
	bad := impl.Reader{Got: goodMsgs()[:3], Bad: 3}
	for _, s := range []string{full + "\xff", full + "a", full + alive, strings.Repeat("\x00", mostFeed+1), strings.Repeat(full, 1000)} {
		if told, rest, code, ok := impl.CutAll(s); len(told) != 0 || rest != "" || code != 0 || ok {
			t.Errorf("CutAll of %d bytes: %#v, %x, %d, %#v", len(s), told, rest, code, ok)
		}
		for _, r := range []impl.Reader{{}, impl.NewReader(), {Rest: "\xff"}, bad} {
			if fed, ok := impl.FeedReader(r, s); !isZeroReader(fed) || ok {
				t.Errorf("FeedReader(%#v) of %d bytes: %#v, %#v", r, len(s), fed, ok)
			}
		}
		for _, l := range [][]string{{s}, {"", s}, {s, ""}, {alive, s}, {"\x00", s}, append(slices.Repeat([]string{alive}, 59), s)} {
			if r, ok := impl.FeedAll(l); !isZeroReader(r) || ok {
				t.Errorf("FeedAll of a piece of %d bytes: %#v, %#v", len(s), r, ok)
			}
		}
	}
}

func TestRestAndAPieceAreOfWhateverLengthTogether(t *testing.T) {
	big := impl.Msg{Type: impl.MsgUpdate, Body: strings.Repeat("u", mostBody)}
	stream := streamOf(slices.Repeat([]impl.Msg{big}, 6)...)
	for held := range 65 {
		r := impl.Reader{Rest: stream[:held]}
		fed, ok := impl.FeedReader(r, stream[held:held+mostFeed])
		want, rest, code := cutByWords(stream[:held+mostFeed])
		if !sameReader(fed, impl.Reader{Rest: rest, Got: want, Bad: code}) || !ok {
			t.Errorf("Rest of %d bytes and 300 more: %#v, %#v", held, fed, ok)
		}
	}
	fed, ok := impl.FeedReader(impl.Reader{Rest: alive[:4]}, alive[4:]+strings.Repeat(alive, 58)+alive[:4]+"\x05")
	if len(fed.Got) != mostGot || fed.Rest != "" || fed.Bad != 3 || !ok {
		t.Errorf("a fault at the last of 304 bytes: %#v, %#v", fed, ok)
	}
}

// rowOfMsgs has messages that can be told from each other.
func rowOfMsgs(many int) []impl.Msg {
	var l []impl.Msg
	for i := range many {
		l = append(l, impl.Msg{Type: impl.MsgUpdate, Body: string([]byte{byte(i)})})
	}
	return l
}

func TestMessagesBeyondRoomAreLost(t *testing.T) {
	row := rowOfMsgs(130)
	for _, had := range []int{0, 1, 38, 39, 40} {
		for _, come := range []int{0, 1, 2, 3, 40, 41, 49} {
			for _, end := range []struct {
				s    string
				rest string
				bad  int
			}{{"", "", 0}, {"\xff\xff\x41", "\xff\xff\x41", 0}, {"\x00", "", 1}, {"\xff\xff\x06\x00\x04", "", 4}} {
				r := impl.Reader{Got: row[:had]}
				fed, ok := impl.FeedReader(r, streamOf(row[had:had+come]...)+end.s)
				want := impl.Reader{Rest: end.rest, Got: row[:min(had+come, mostGot)], Bad: end.bad}
				if !sameReader(fed, want) || !ok {
					t.Errorf("%d and %d, then %x: %#v, %#v, not %#v", had, come, end.s, fed, ok, want)
				}
			}
		}
	}
	r := rand.New(rand.NewSource(560))
	for _, many := range []int{38, 39, 40, 60, 130} {
		s := streamOf(row[:many]...) + "\xff\xff\x09"
		got := append([]impl.Msg{{Type: impl.MsgAlive}}, row[:many]...)
		lookAtCuts(t, s, impl.Reader{Rest: "\xff\xff\x09", Got: got[:min(len(got), mostGot)]}, r)
	}
}

func TestWhatIsLostIsNotHandedOutBehindTheLength(t *testing.T) {
	row := rowOfMsgs(mostGot + 9)
	for _, had := range []int{0, 1, 39, 40} {
		fed, _ := impl.FeedReader(impl.Reader{Got: row[:had]}, streamOf(row[had:]...)[:min(mostFeed, 6*(len(row)-had))])
		for _, m := range fed.Got[len(fed.Got):cap(fed.Got)] {
			if m != (impl.Msg{}) {
				t.Errorf("%d had: %#v lies behind the length", had, m)
			}
		}
	}
}

func TestNewReaderHasOneAlive(t *testing.T) {
	want := impl.Reader{Got: []impl.Msg{{Type: impl.MsgAlive}}}
	if r := impl.NewReader(); !sameReader(r, want) || !impl.GoodReader(r) {
		t.Errorf("NewReader() = %#v", r)
	}
	for _, l := range [][]string{nil, {}, {""}, slices.Repeat([]string{""}, mostPieces)} {
		if r, ok := impl.FeedAll(l); !sameReader(r, want) || !ok {
			t.Errorf("FeedAll(%q) = %#v, %#v", l, r, ok)
		}
	}
}

func TestNoMoreThan60Pieces(t *testing.T) {
	row := rowOfMsgs(10)
	pieces := byteAtATime(streamOf(row...))
	for _, l := range [][]string{pieces, slices.Repeat([]string{""}, mostPieces), slices.Repeat([]string{"\x00"}, mostPieces), slices.Repeat([]string{strings.Repeat(alive, 60)}, mostPieces)} {
		if len(l) != mostPieces {
			t.Fatal(len(l))
		}
		if r, ok := impl.FeedAll(l); !sameReader(r, readerByWords(strings.Join(l, ""))) || !ok {
			t.Errorf("FeedAll of 60 pieces: %#v, %#v", r, ok)
		}
		for _, more := range [][]string{append(slices.Clone(l), ""), append([]string{alive}, l...), slices.Repeat(l, 50)} {
			if r, ok := impl.FeedAll(more); !isZeroReader(r) || ok {
				t.Errorf("FeedAll of %d pieces: %#v, %#v", len(more), r, ok)
			}
		}
	}
}

func TestAReaderThatIsBadDoesNotChange(t *testing.T) {
	for bad := 1; bad <= 4; bad++ {
		for _, many := range []int{0, 1, 39, 40} {
			r := impl.Reader{Got: rowOfMsgs(many), Bad: bad}
			for _, s := range []string{"", "\x00", "\xff", alive, strings.Repeat(alive, 60), "\xff\xff\x04", strings.Repeat("\x00", mostFeed)} {
				if fed, ok := impl.FeedReader(r, s); !sameReader(fed, r) || !ok {
					t.Errorf("FeedReader(%#v, %x) = %#v, %#v", r, s, fed, ok)
				}
			}
		}
	}
}

// goodReaders has no message, some and as many as there may be; each Rest that may still become one, or each code.
func goodReaders() []impl.Reader {
	var l []impl.Reader
	for _, got := range [][]impl.Msg{nil, {}, {{Type: impl.MsgAlive}}, goodMsgs(), rowOfMsgs(mostGot)} {
		for bad := range 5 {
			l = append(l, impl.Reader{Got: got, Bad: bad})
		}
		for _, m := range []impl.Msg{{Type: impl.MsgAlive}, {Type: impl.MsgOpen, Body: "a"}, {Type: impl.MsgUpdate, Body: strings.Repeat(alive, 12)}} {
			s := bytesOf(m)
			for end := range s {
				l = append(l, impl.Reader{Rest: s[:end], Got: got})
			}
		}
	}
	return l
}

func badReaders() []impl.Reader {
	var l []impl.Reader
	for _, m := range badMsgs() {
		l = append(l,
			impl.Reader{Got: []impl.Msg{m}},
			impl.Reader{Got: []impl.Msg{{Type: impl.MsgAlive}, m, {Type: impl.MsgOpen}}},
			impl.Reader{Got: append(rowOfMsgs(mostGot-1), m)},
			impl.Reader{Got: []impl.Msg{m}, Bad: 2})
	}
	for _, many := range []int{mostGot + 1, mostGot + 2, 300} {
		l = append(l, impl.Reader{Got: rowOfMsgs(many)}, impl.Reader{Got: rowOfMsgs(many), Bad: 1}, impl.Reader{Got: rowOfMsgs(many), Rest: "\xff"})
	}
	for _, m := range goodMsgs() {
		l = append(l, impl.Reader{Rest: bytesOf(m)}, impl.Reader{Rest: bytesOf(m) + "\xff"}, impl.Reader{Rest: bytesOf(m) + alive, Got: goodMsgs()})
	}
	for s := range faults() {
		l = append(l, impl.Reader{Rest: s}, impl.Reader{Rest: s + alive})
	}
	for bad := 1; bad <= 4; bad++ {
		l = append(l, impl.Reader{Rest: "\xff", Bad: bad}, impl.Reader{Rest: alive[:4], Bad: bad, Got: goodMsgs()}, impl.Reader{Rest: "\x00", Bad: bad}, impl.Reader{Rest: alive, Bad: bad})
	}
	for _, bad := range []int{-1, 5, 6, 255, 256, 1 << 32, math.MinInt, math.MaxInt} {
		l = append(l, impl.Reader{Bad: bad}, impl.Reader{Bad: bad, Got: goodMsgs()}, impl.Reader{Bad: bad, Rest: "\xff"})
	}
	l = append(l, impl.Reader{Rest: strings.Repeat("\xff", 100000)}, impl.Reader{Rest: strings.Repeat(alive, 10000)})
	return l
}

func TestReadersAreGoodByTheirWords(t *testing.T) {
	for _, r := range goodReaders() {
		if !impl.GoodReader(r) {
			t.Errorf("%#v is not good", r)
		}
	}
	for _, r := range badReaders() {
		if impl.GoodReader(r) {
			t.Errorf("%#v is good", r)
		}
	}
}

func TestReadersThatAreNotGoodAreRefused(t *testing.T) {
	for _, r := range badReaders() {
		for _, s := range []string{"", alive, "\x00"} {
			if fed, ok := impl.FeedReader(r, s); !isZeroReader(fed) || ok {
				t.Errorf("FeedReader(%#v, %x) = %#v, %#v", r, s, fed, ok)
			}
		}
		if left, m, ok := impl.TakeMsg(r); !isZeroReader(left) || m != (impl.Msg{}) || ok {
			t.Errorf("TakeMsg(%#v) = %#v, %#v, %#v", r, left, m, ok)
		}
	}
}

func TestFeedReaderGoesOnFromAnyReader(t *testing.T) {
	rd := rand.New(rand.NewSource(561))
	for _, r := range goodReaders() {
		for range 4 {
			s := streamOf(mixedMsgs(rd.Intn(3), rd)...) + string(mixedBytes(rd.Intn(6), rd))
			if r.Rest != "" && rd.Intn(3) > 0 {
				s = streamOf(impl.Msg{Type: impl.MsgOpen, Body: "a"})[min(len(r.Rest), 6):] + s
			}
			want := r
			if r.Bad == 0 {
				told, rest, code := cutByWords(r.Rest + s)
				got := slices.Concat(r.Got, told)
				want = impl.Reader{Rest: rest, Got: got[:min(len(got), mostGot)], Bad: code}
			}
			if fed, ok := impl.FeedReader(r, s); !sameReader(fed, want) || !ok || !impl.GoodReader(fed) {
				t.Errorf("FeedReader(%#v, %x) = %#v, %#v, not %#v", r, s, fed, ok, want)
			}
		}
	}
}

func TestTakeMsgDownToNone(t *testing.T) {
	for _, r := range goodReaders() {
		for i, want := range r.Got {
			left, m, ok := impl.TakeMsg(r)
			if m != want || !ok || !sameReader(left, impl.Reader{Rest: r.Rest, Got: r.Got[1:], Bad: r.Bad}) {
				t.Fatalf("message %d of %#v: %#v, %#v, %#v", i, r, left, m, ok)
			}
			r = left
		}
		if left, m, ok := impl.TakeMsg(r); !isZeroReader(left) || m != (impl.Msg{}) || ok {
			t.Errorf("TakeMsg(%#v) = %#v, %#v, %#v", r, left, m, ok)
		}
	}
}

var behindMsg = impl.Msg{Type: -7, Body: "what lies behind"}

func TestReadersAreNotWrittenIntoNorShared(t *testing.T) {
	for _, r := range append(goodReaders(), badReaders()...) {
		given := impl.Reader{Rest: r.Rest, Got: withBehind(r.Got, behindMsg), Bad: r.Bad}
		kept := whole(given.Got)
		look := func(name string, got []impl.Msg) {
			t.Helper()
			if slices.Contains(whole(got), behindMsg) {
				t.Errorf("%s of %#v hands out what lies behind", name, r)
			}
			overwrite(got, impl.Msg{Type: -9, Body: "written"})
			if !slices.Equal(whole(given.Got), kept) {
				t.Fatalf("%s: %#v became %#v", name, kept, whole(given.Got))
			}
		}
		good := impl.GoodReader(given)
		if good != impl.GoodReader(r) {
			t.Errorf("what lies behind %#v is read", r)
		}
		for _, s := range []string{"", "\xff", "\x00", alive, strings.Repeat(alive, 60)} {
			want, wantOk := impl.FeedReader(r, s)
			fed, ok := impl.FeedReader(given, s)
			if !sameReader(fed, want) || ok != wantOk {
				t.Errorf("FeedReader(%#v, %x) = %#v, %#v, not %#v, %#v", r, s, fed, ok, want, wantOk)
			}
			look("FeedReader", fed.Got)
		}
		left, m, ok := impl.TakeMsg(given)
		if m == behindMsg || ok != (good && len(r.Got) > 0) {
			t.Errorf("TakeMsg(%#v) = %#v, %#v, %#v", r, left, m, ok)
		}
		look("TakeMsg", left.Got)
	}
}

func TestPiecesAreNotWrittenInto(t *testing.T) {
	for _, l := range [][]string{nil, {""}, {alive, alive[:2], alive[2:]}, {"\x00", alive}, byteAtATime(alive + alive), slices.Repeat([]string{alive}, mostPieces), slices.Repeat([]string{alive}, mostPieces+1)} {
		given := withBehind(l, alive+"\xff\xff\x05\x00\x01")
		kept := whole(given)
		want, wantOk := impl.FeedAll(l)
		got, ok := impl.FeedAll(given)
		if !sameReader(got, want) || ok != wantOk {
			t.Errorf("FeedAll(%x) = %#v, %#v, not %#v, %#v", l, got, ok, want, wantOk)
		}
		if !slices.Equal(whole(given), kept) {
			t.Errorf("%x became %x", kept, whole(given))
		}
	}
}

func TestTwoAnswersOfTheStreamShareNoMemory(t *testing.T) {
	look := func(name string, got, other []impl.Msg) {
		t.Helper()
		kept := slices.Clone(other)
		overwrite(got, impl.Msg{Type: -9, Body: "written"})
		if !slices.Equal(other, kept) {
			t.Errorf("%s: %#v became %#v", name, kept, other)
		}
	}
	look("NewReader", impl.NewReader().Got, impl.NewReader().Got)
	for _, l := range goodStreams() {
		s := streamOf(l...)
		a, _, _, _ := impl.CutAll(s[:min(len(s), mostFeed)])
		b, _, _, _ := impl.CutAll(s[:min(len(s), mostFeed)])
		look("CutAll", a, b)
		one, _ := impl.FeedAll(inPiecesOf(s, mostFeed))
		two, _ := impl.FeedAll(inPiecesOf(s, mostFeed))
		look("FeedAll", one.Got, two.Got)
	}
}

func TestStreamsReadAtTheSameTime(t *testing.T) {
	s := streamOf(rowOfMsgs(8)...) + "\xff\xff\x41"
	want := readerByWords(s)
	done := make(chan bool)
	for range 8 {
		go func() {
			all := true
			for range 200 {
				r, ok := impl.FeedAll(byteAtATime(s))
				all = all && ok && sameReader(r, want)
			}
			done <- all
		}()
	}
	for range 8 {
		if !<-done {
			t.Error("read otherwise by one of many")
		}
	}
}

func TestChannelsStandInOnePlace(t *testing.T) {
	files, err := filepath.Glob("../impl/*.go")
	if err != nil || len(files) == 0 {
		t.Fatal(files, err)
	}
	for _, file := range files {
		parsed, err := parser.ParseFile(token.NewFileSet(), file, nil, parser.SkipObjectResolution)
		if err != nil {
			t.Fatal(err)
		}
		for _, d := range parsed.Decls {
			if f, ok := d.(*ast.FuncDecl); ok && f.Name.Name == "FeedAll" {
				continue
			}
			ast.Inspect(d, func(n ast.Node) bool {
				switch n.(type) {
				case *ast.ChanType, *ast.SelectStmt, *ast.SendStmt, *ast.GoStmt:
					t.Errorf("%s: %T stands outside FeedAll", file, n)
				}
				return true
			})
		}
	}
}
