package tests

import (
	"fmt"
	"go/ast"
	"go/parser"
	"go/token"
	"math"
	"math/big"
	"math/rand"
	"slices"
	"strings"
	"testing"

	"loop.example/g00344/impl"
)

const (
	mostSectors    = 10
	mostSectorLong = 20
	mostWaiting    = 40
	mostSaved      = 72
	mostLog        = 40
	lastSaveNumber = 999
)

// stepsOfSave has a letter for each step: a write to the disk, or a sync.
const stepsOfSave = "wwwwsws"

func TestLimitsOfTheJournalAreAsSaid(t *testing.T) {
	if impl.Sectors != mostSectors || impl.MaxLog != mostLog {
		t.Error(impl.Sectors, impl.MaxLog)
	}
}

// sumByWords works the sum out as one number, and takes what is left of it at the end.
func sumByWords(s string) byte {
	sum := big.NewInt(7)
	for _, b := range []byte(s) {
		sum.Add(sum.Mul(sum, big.NewInt(31)), big.NewInt(int64(b)))
	}
	return byte(sum.Mod(sum, big.NewInt(251)).Int64())
}

func sealByWords(s string) string {
	return string(append([]byte(s), sumByWords(s)))
}

func unsealByWords(s string) (string, bool) {
	for cut := range len(s) {
		if cut == len(s)-1 && sealByWords(s[:cut]) == s {
			return s[:cut], true
		}
	}
	return "", false
}

// tellsOf is what a telling sector has of a number and a length, which may be such as it may not tell.
func tellsOf(number, length int) string {
	return sealByWords(string([]byte{byte(number / 256), byte(number % 256), byte(length)}))
}

// diskModel is compared as it is; what waits stands apart from it.
type diskModel [mostSectors]string

func (m diskModel) disk(waiting ...impl.Write) impl.Disk {
	return impl.Disk{Sectors: slices.Clone(m[:]), Waiting: slices.Clone(waiting)}
}

func modelOfDisk(d impl.Disk) diskModel {
	return diskModel(d.Sectors)
}

func newDiskModel() diskModel {
	return diskModel{8: "\x00\x00\x00" + string([]byte{sumByWords("\x00\x00\x00")})}
}

func (m diskModel) written(writes ...impl.Write) diskModel {
	for _, w := range writes {
		m[w.At] = w.Data
	}
	return m
}

// tells is asked of a half, 0 or 1.
func (m diskModel) tells(half int) (number, length int, is bool) {
	sector := m[8+half]
	if len(sector) != 4 || sealByWords(sector[:3]) != sector {
		return 0, 0, false
	}
	number, length = 256*int(sector[0])+int(sector[1]), int(sector[2])
	return number, length, number <= lastSaveNumber && length <= mostSaved
}

// newestHalf is -1, where nothing tells.
func (m diskModel) newestHalf() int {
	newest, greatest := -1, -1
	for half := range 2 {
		if number, _, is := m.tells(half); is && number > greatest {
			newest, greatest = half, number
		}
	}
	return newest
}

func (m diskModel) load() (string, int, bool) {
	half := m.newestHalf()
	if half < 0 {
		return "", 0, false
	}
	number, length, _ := m.tells(half)
	var text []byte
	for at := 4 * half; at < 4*half+4; at++ {
		for i, b := range []byte(m[at]) {
			if i < 18 && len(text) < length {
				text = append(text, b)
			}
		}
	}
	if len(text) < length {
		return "", 0, false
	}
	return string(text), number, true
}

func (m diskModel) plan(text string) ([]impl.Write, bool) {
	_, number, is := m.load()
	if !is || number >= lastSaveNumber || len(text) > mostSaved {
		return nil, false
	}
	half := 1 - m.newestHalf()
	writes := []impl.Write{{At: 4 * half}, {At: 4*half + 1}, {At: 4*half + 2}, {At: 4*half + 3}, {At: 8 + half, Data: tellsOf(number+1, len(text))}}
	for i := range len(text) {
		writes[i/18].Data += text[i : i+1]
	}
	return writes, true
}

// save tells what is written and what waits behind the first steps.
func (m diskModel) save(text string, done int) (diskModel, []impl.Write, bool) {
	writes, is := m.plan(text)
	if !is || done < 0 || done > len(stepsOfSave) {
		return diskModel{}, nil, false
	}
	from, to := 0, 0
	for _, step := range stepsOfSave[:done] {
		if step == 'w' {
			to++
		} else {
			from = to
		}
	}
	return m.written(writes[:from]...), writes[from:to], true
}

func keptOf(waiting []impl.Write, kept []bool) []impl.Write {
	var l []impl.Write
	for i, w := range waiting {
		if i < len(kept) && kept[i] {
			l = append(l, w)
		}
	}
	return l
}

func playSavesByModel(l []string, done int, kept []bool) (diskModel, bool) {
	if len(l) < 1 || len(l) > mostLog {
		return diskModel{}, false
	}
	m := newDiskModel()
	for i, text := range l {
		far := done
		if i < len(l)-1 {
			far = len(stepsOfSave)
		}
		then, waiting, is := m.save(text, far)
		if !is {
			return diskModel{}, false
		}
		m = then.written(keptOf(waiting, kept)...)
	}
	return m, true
}

func goodDiskByWords(d impl.Disk) bool {
	if len(d.Sectors) != mostSectors || len(d.Waiting) > mostWaiting {
		return false
	}
	for _, w := range d.Waiting {
		if w.At < 0 || w.At > 9 || len(w.Data) > mostSectorLong {
			return false
		}
	}
	return !slices.ContainsFunc(d.Sectors, func(s string) bool { return len(s) > mostSectorLong })
}

func sameDisk(a, b impl.Disk) bool {
	return slices.Equal(a.Sectors, b.Sectors) && slices.Equal(a.Waiting, b.Waiting)
}

func isZeroDisk(d impl.Disk) bool {
	return sameDisk(d, impl.Disk{})
}

// quoted tells texts byte by byte, and not all of what is too long.
func quoted(all ...any) string {
	var texts []string
	for _, one := range all {
		texts = append(texts, fmt.Sprintf("%#v", one))
	}
	return fmt.Sprintf("%.1500s", strings.Join(texts, ", "))
}

// lookAtDisk is told behind the wanted disk what was asked.
func lookAtDisk(t *testing.T, got impl.Disk, ok bool, want impl.Disk, asked ...any) {
	t.Helper()
	if !sameDisk(got, want) || !ok {
		t.Errorf("%s = %s, %v, not %s", quoted(asked...), quoted(got), ok, quoted(want))
	}
	stopAtFault(t)
}

func refusesDisk(t *testing.T, got impl.Disk, ok bool, asked ...any) {
	t.Helper()
	if !isZeroDisk(got) || ok {
		t.Errorf("%s = %s, %v", quoted(asked...), quoted(got), ok)
	}
	stopAtFault(t)
}

func lookAtWriteTo(t *testing.T, d impl.Disk, at int, data string) {
	t.Helper()
	got, ok := impl.WriteTo(d, at, data)
	if !goodDiskByWords(d) || at < 0 || at > 9 || len(data) > mostSectorLong || len(d.Waiting) >= mostWaiting {
		refusesDisk(t, got, ok, "WriteTo", d, at, data)
		return
	}
	lookAtDisk(t, got, ok, modelOfDisk(d).disk(append(slices.Clone(d.Waiting), impl.Write{At: at, Data: data})...), "WriteTo", d, at, data)
}

func lookAtSync(t *testing.T, d impl.Disk) {
	t.Helper()
	got, ok := impl.SyncDisk(d)
	if !goodDiskByWords(d) {
		refusesDisk(t, got, ok, "SyncDisk", d)
		return
	}
	lookAtDisk(t, got, ok, modelOfDisk(d).written(d.Waiting...).disk(), "SyncDisk", d)
}

func lookAtCrash(t *testing.T, d impl.Disk, kept []bool) {
	t.Helper()
	got, ok := impl.CrashDisk(d, kept)
	if !goodDiskByWords(d) || len(kept) != len(d.Waiting) {
		refusesDisk(t, got, ok, "CrashDisk", d, kept)
		return
	}
	lookAtDisk(t, got, ok, modelOfDisk(d).written(keptOf(d.Waiting, kept)...).disk(), "CrashDisk", d, kept)
}

func lookAtLoad(t *testing.T, d impl.Disk) {
	t.Helper()
	want, wantNumber, wantOk := "", 0, false
	if goodDiskByWords(d) {
		want, wantNumber, wantOk = modelOfDisk(d).load()
	}
	if got, number, ok := impl.LoadFrom(d); got != want || number != wantNumber || ok != wantOk {
		t.Errorf("LoadFrom %s = %q, %d, %v, not %q, %d, %v", quoted(d), got, number, ok, want, wantNumber, wantOk)
	}
	stopAtFault(t)
}

func lookAtLoaded(t *testing.T, d impl.Disk, want string, wantNumber int) {
	t.Helper()
	if got, number, ok := impl.LoadFrom(d); got != want || number != wantNumber || !ok {
		t.Errorf("LoadFrom %s = %q, %d, %v, not %q, %d", quoted(d), got, number, ok, want, wantNumber)
	}
	stopAtFault(t)
}

func tellsNothing(t *testing.T, d impl.Disk) {
	t.Helper()
	if got, number, ok := impl.LoadFrom(d); got != "" || number != 0 || ok {
		t.Errorf("LoadFrom %s = %q, %d, %v", quoted(d), got, number, ok)
	}
	stopAtFault(t)
}

func lookAtPlan(t *testing.T, d impl.Disk, text string) {
	t.Helper()
	var want []impl.Write
	wantOk := false
	if goodDiskByWords(d) {
		want, wantOk = modelOfDisk(d).plan(text)
	}
	if got, ok := impl.PlanOf(d, text); !slices.Equal(got, want) || ok != wantOk {
		t.Errorf("PlanOf %s = %s, %v, not %s, %v", quoted(d, text), quoted(got), ok, quoted(want), wantOk)
	}
	stopAtFault(t)
}

func lookAtSave(t *testing.T, d impl.Disk, text string, done int) {
	t.Helper()
	got, ok := impl.SaveTo(d, text, done)
	if !goodDiskByWords(d) || len(d.Waiting) > 0 {
		refusesDisk(t, got, ok, "SaveTo", d, text, done)
		return
	}
	want, waiting, is := modelOfDisk(d).save(text, done)
	if !is {
		refusesDisk(t, got, ok, "SaveTo", d, text, done)
		return
	}
	lookAtDisk(t, got, ok, want.disk(waiting...), "SaveTo", d, text, done)
}

func lookAtSaves(t *testing.T, l []string, done int, kept []bool) {
	t.Helper()
	got, ok := impl.PlaySaves(l, done, kept)
	want, is := playSavesByModel(l, done, kept)
	if !is {
		refusesDisk(t, got, ok, "PlaySaves", l, done, kept)
		return
	}
	lookAtDisk(t, got, ok, want.disk(), "PlaySaves", l, done, kept)
}

func mustSave(t *testing.T, d impl.Disk, text string, done int) impl.Disk {
	t.Helper()
	then, ok := impl.SaveTo(d, text, done)
	if !ok {
		t.Fatalf("SaveTo %s: false", quoted(d, text, done))
	}
	return then
}

func mustCrash(t *testing.T, d impl.Disk, kept []bool) impl.Disk {
	t.Helper()
	then, ok := impl.CrashDisk(d, kept)
	if !ok {
		t.Fatalf("CrashDisk %s: false", quoted(d, kept))
	}
	return then
}

// textOfLength has no two like pieces, and bytes that are no letters.
func textOfLength(long int, first byte) string {
	b := make([]byte, long)
	for i := range b {
		b[i] = first + byte(7*i)
	}
	return string(b)
}

func mixedText(r *rand.Rand) string {
	lengths := []int{0, 0, 1, 2, 17, 18, 19, 35, 36, 37, 53, 54, 55, 71, 72, r.Intn(mostSaved + 1)}
	b := make([]byte, lengths[r.Intn(len(lengths))])
	for i := range b {
		b[i] = byte(r.Intn(256))
	}
	return string(b)
}

func mixedTexts(many int, r *rand.Rand) []string {
	var l []string
	for range many {
		l = append(l, mixedText(r))
	}
	return l
}

func mixedData(r *rand.Rand) string {
	lengths := []int{0, 1, 3, 4, 17, 18, 18, 18, 19, 20, r.Intn(mostSectorLong + 1)}
	return textOfLength(lengths[r.Intn(len(lengths))], byte(r.Intn(256)))
}

// mixedTelling is mostly such as tells.
func mixedTelling(r *rand.Rand) string {
	numbers := []int{0, 1, 2, 255, 256, 257, 511, 512, 997, 998, 999, 1000, 1001, 65535, r.Intn(1000), r.Intn(1000)}
	lengths := []int{0, 1, 18, 19, 36, 54, 71, 72, 73, 80, 255, r.Intn(73), r.Intn(73)}
	tells := tellsOf(numbers[r.Intn(len(numbers))], lengths[r.Intn(len(lengths))])
	switch r.Intn(12) {
	case 0:
		return mixedData(r)
	case 1:
		return sealByWords(tells[:r.Intn(4)])
	case 2:
		return sealByWords(tells)
	case 3:
		at := r.Intn(4)
		return tells[:at] + string([]byte{tells[at] ^ byte(1<<r.Intn(8))}) + tells[at+1:]
	}
	return tells
}

func mixedWrites(many int, r *rand.Rand) []impl.Write {
	var l []impl.Write
	for range many {
		w := impl.Write{At: r.Intn(mostSectors)}
		w.Data = mixedData(r)
		if w.At >= 8 {
			w.Data = mixedTelling(r)
		}
		l = append(l, w)
	}
	return l
}

func mixedDisk(waiting int, r *rand.Rand) impl.Disk {
	var m diskModel
	full := r.Intn(2) == 0
	for at := range 8 {
		m[at] = mixedData(r)
		if full {
			m[at] = textOfLength(18+r.Intn(3), byte(r.Intn(256)))
		}
	}
	m[8], m[9] = mixedTelling(r), mixedTelling(r)
	if r.Intn(6) == 0 {
		m[9] = m[8]
	}
	return m.disk(mixedWrites(waiting, r)...)
}

func mixedKept(many int, r *rand.Rand) []bool {
	var l []bool
	for range many {
		l = append(l, r.Intn(2) == 0)
	}
	return l
}

// halvesDisk has two texts whole, the first half's and the second half's, with their numbers.
func halvesDisk(first string, number int, second string, other int) diskModel {
	m := diskModel{8: tellsOf(number, len(first)), 9: tellsOf(other, len(second))}
	for i, b := range []byte(first) {
		m[i/18] += string([]byte{b})
	}
	for i, b := range []byte(second) {
		m[4+i/18] += string([]byte{b})
	}
	return m
}

func sectorsOf(many int, data string) []string {
	return slices.Repeat([]string{data}, many)
}

func goodDisks() map[string]impl.Disk {
	long := textOfLength(mostSectorLong, 'a')
	all := map[string]impl.Disk{
		"the new one":            newDiskModel().disk(),
		"empty sectors":          {Sectors: make([]string, mostSectors)},
		"empty list of waiting":  {Sectors: make([]string, mostSectors), Waiting: []impl.Write{}},
		"full sectors":           {Sectors: sectorsOf(mostSectors, long)},
		"all full":               {Sectors: sectorsOf(mostSectors, long), Waiting: slices.Repeat([]impl.Write{{At: 9, Data: long}}, mostWaiting)},
		"39 wait":                newDiskModel().disk(slices.Repeat([]impl.Write{{At: 3, Data: "a"}}, mostWaiting-1)...),
		"40 wait":                newDiskModel().disk(slices.Repeat([]impl.Write{{At: 8, Data: ""}}, mostWaiting)...),
		"both tell":              halvesDisk("one", 1, "a second one", 2).disk(),
		"the first one is newer": halvesDisk(textOfLength(72, 1), 4, "a second one", 3).disk(impl.Write{At: 0, Data: "x"}),
		"both the same":          halvesDisk("one", 7, "two", 7).disk(impl.Write{At: 8, Data: tellsOf(9, 1)}),
		"at the last number":     halvesDisk("one", 998, "two", 999).disk(),
		"ahead of it":            halvesDisk("one", 998, "two", 997).disk(),
		"only the second tells":  halvesDisk("one", 1000, "two", 5).disk(),
	}
	for at := range mostSectors {
		m := diskModel{}
		m[at] = long
		all[fmt.Sprint("a full sector ", at)] = m.disk()
		all[fmt.Sprint("a full write to ", at)] = diskModel{}.disk(impl.Write{At: at, Data: long})
		all[fmt.Sprint("the last of 40 writes to ", at)] = diskModel{}.disk(append(make([]impl.Write, mostWaiting-1), impl.Write{At: at, Data: long})...)
	}
	return all
}

// badPlaces are no sectors, whatever is cut off them.
func badPlaces() []int {
	return []int{math.MinInt, math.MinInt + 8, -1 << 32, -256, -10, -9, -2, -1, 10, 11, 12, 18, 20, 255, 256, 264, 1 << 16, 1 << 32, 1<<32 + 8, math.MaxInt - 1, math.MaxInt}
}

func tooLong() []string {
	return []string{strings.Repeat("a", mostSectorLong+1), textOfLength(mostSectorLong+2, 0), strings.Repeat("\x00", 256), strings.Repeat("b", 276), strings.Repeat("c", 1<<16)}
}

// badDisks have one thing each that is not as said.
func badDisks() map[string]impl.Disk {
	fine := halvesDisk("one", 1, "a second one", 2)
	all := map[string]impl.Disk{
		"the zero one":                      {},
		"an empty list":                     {Sectors: []string{}},
		"no sectors, writes":                {Waiting: []impl.Write{{At: 1, Data: "a"}}},
		"far too many":                      {Sectors: make([]string, 1<<20)},
		"far too many writes":               fine.disk(make([]impl.Write, 1<<20)...),
		"one more that is full and waiting": {Sectors: sectorsOf(mostSectors+1, "a"), Waiting: slices.Repeat([]impl.Write{{At: 10}}, mostWaiting+1)},
	}
	for _, many := range []int{1, 2, 8, 9, 11, 12, 20, 266} {
		all[fmt.Sprint(many, " sectors")] = impl.Disk{Sectors: make([]string, many)}
		all[fmt.Sprint(many, " sectors that tell")] = impl.Disk{Sectors: slices.Concat(fine[:], sectorsOf(266, ""))[:many]}
	}
	for _, many := range []int{41, 42, 80, 256, 257} {
		all[fmt.Sprint(many, " writes")] = fine.disk(slices.Repeat([]impl.Write{{At: 1, Data: "a"}}, many)...)
	}
	for _, data := range tooLong() {
		for at := range mostSectors {
			m := fine
			m[at] = data
			all[fmt.Sprint("a sector ", at, " of ", len(data))] = m.disk()
			all[fmt.Sprint("a write to ", at, " of ", len(data))] = fine.disk(impl.Write{At: at, Data: data})
			writes := slices.Repeat([]impl.Write{{At: at, Data: "a"}}, 4*at+4)
			writes[len(data)%len(writes)].Data = data
			all[fmt.Sprint("among ", len(writes), " a write of ", len(data))] = fine.disk(writes...)
		}
	}
	for i, at := range badPlaces() {
		all[fmt.Sprint("a write to ", at)] = fine.disk(impl.Write{At: at, Data: "a"})
		all[fmt.Sprint("an empty write to ", at)] = fine.disk(impl.Write{At: at})
		writes := slices.Repeat([]impl.Write{{At: i % 10, Data: "a"}}, i+1)
		writes[i].At = at
		all[fmt.Sprint("the last of ", i+1, " to ", at)] = fine.disk(writes...)
		writes = slices.Repeat([]impl.Write{{At: 9, Data: "a"}}, mostWaiting)
		writes[i].At = at
		all[fmt.Sprint("among 40 one to ", at)] = fine.disk(writes...)
	}
	return all
}

func TestDisksAreGoodByTheirWords(t *testing.T) {
	for name, d := range goodDisks() {
		if !impl.GoodDisk(d) || !goodDiskByWords(d) {
			t.Errorf("%s: is not good", name)
		}
	}
	for name, d := range badDisks() {
		if goodDiskByWords(d) {
			t.Fatalf("%s: is good by the words", name)
		}
		if impl.GoodDisk(d) {
			t.Errorf("%s: is good", name)
		}
	}
}

func TestSectorsAndWritesFromNoneToMore(t *testing.T) {
	for many := range 2 * mostWaiting {
		if got := impl.GoodDisk(impl.Disk{Sectors: make([]string, many)}); got != (many == mostSectors) {
			t.Errorf("%d sectors: %v", many, got)
		}
		if got := impl.GoodDisk(newDiskModel().disk(make([]impl.Write, many)...)); got != (many <= mostWaiting) {
			t.Errorf("%d writes: %v", many, got)
		}
		for at := range mostSectors {
			m := diskModel{}
			m[at] = strings.Repeat("\xff", many)
			if got := impl.GoodDisk(m.disk()); got != (many <= mostSectorLong) {
				t.Errorf("a sector %d of %d: %v", at, many, got)
			}
			if got := impl.GoodDisk(diskModel{}.disk(impl.Write{At: at, Data: m[at]})); got != (many <= mostSectorLong) {
				t.Errorf("a write to %d of %d: %v", at, many, got)
			}
		}
		if got := impl.GoodDisk(diskModel{}.disk(impl.Write{At: many - 20})); got != (many >= 20 && many < 30) {
			t.Errorf("a write to %d: %v", many-20, got)
		}
	}
}

func TestTheNewDisk(t *testing.T) {
	d := impl.NewDisk()
	want := make([]string, mostSectors)
	want[8] = "\x00\x00\x00" + string([]byte{byte(7 * 31 * 31 * 31 % 251)})
	if !slices.Equal(d.Sectors, want) || len(d.Waiting) != 0 || !impl.GoodDisk(d) {
		t.Error(quoted(d))
	}
	lookAtLoaded(t, d, "", 0)
	lookAtLists(t, "NewDisk", slices.Concat(diskLists("one", d), diskLists("another one", impl.NewDisk())))
	if !slices.Equal(impl.NewDisk().Sectors, want) {
		t.Error("what is written into a new disk is in the next one")
	}
}

func TestAWriteMoreIsWaiting(t *testing.T) {
	data := []string{"", "a", "\x00", "\xff\xfe", textOfLength(19, 3), textOfLength(20, 3), textOfLength(21, 3), strings.Repeat("a", 256), strings.Repeat("a", 1<<16)}
	for _, d := range goodDisks() {
		for at := -2; at <= mostSectors+2; at++ {
			for _, one := range data {
				lookAtWriteTo(t, d, at, one)
			}
		}
		for _, at := range badPlaces() {
			lookAtWriteTo(t, d, at, "a")
		}
	}
	d := impl.NewDisk()
	for i := range mostWaiting + 3 {
		lookAtWriteTo(t, d, i%mostSectors, fmt.Sprint(i))
		then, ok := impl.WriteTo(d, i%mostSectors, fmt.Sprint(i))
		if ok != (i < mostWaiting) {
			t.Fatal(i, ok)
		}
		if ok {
			d = then
		}
		if !slices.Equal(d.Sectors, impl.NewDisk().Sectors) || len(d.Waiting) != min(i+1, mostWaiting) {
			t.Fatal(i, quoted(d))
		}
	}
}

func TestSyncWritesAllInOrder(t *testing.T) {
	for _, d := range goodDisks() {
		lookAtSync(t, d)
	}
	for _, writes := range [][]impl.Write{
		nil,
		{},
		{{At: 0, Data: "a"}},
		{{At: 9, Data: "a"}},
		{{At: 8}},
		{{At: 3, Data: "a"}, {At: 3, Data: "b"}},
		{{At: 3, Data: "b"}, {At: 3, Data: "a"}},
		{{At: 3, Data: "abc"}, {At: 3}},
		{{At: 3}, {At: 3, Data: "abc"}},
		{{At: 3, Data: "a"}, {At: 4, Data: "b"}, {At: 3, Data: "c"}},
		{{At: 4, Data: "a"}, {At: 3, Data: "b"}, {At: 2, Data: "c"}, {At: 4, Data: "d"}, {At: 3, Data: "a"}},
	} {
		lookAtSync(t, diskModel{3: "old", 4: "older", 8: "x"}.disk(writes...))
	}
	d, ok := impl.SyncDisk(diskModel{3: "old"}.disk(impl.Write{At: 3, Data: "a"}, impl.Write{At: 4, Data: "b"}, impl.Write{At: 3, Data: "c"}))
	lookAtDisk(t, d, ok, diskModel{3: "c", 4: "b"}.disk(), "SyncDisk")
}

// TestManyWritesAndCrashes goes through all that may be kept of few writes, and much of what may be kept of many.
func TestManyWritesAndCrashes(t *testing.T) {
	for many := range 7 {
		for at := range 3 {
			var writes []impl.Write
			for i := range many {
				writes = append(writes, impl.Write{At: 5 + (i*at)%3, Data: fmt.Sprint(i)})
			}
			d := diskModel{5: "a", 6: "b", 7: "c"}.disk(writes...)
			eachRow([]bool{false, true}, many+1, func(kept []bool) { lookAtCrash(t, d, kept) })
		}
	}
	r := rand.New(rand.NewSource(170))
	for range 4000 {
		d := mixedDisk(r.Intn(mostWaiting+1), r)
		lookAtSync(t, d)
		lookAtCrash(t, d, mixedKept(len(d.Waiting), r))
		lookAtCrash(t, d, make([]bool, len(d.Waiting)))
		lookAtCrash(t, d, slices.Repeat([]bool{true}, len(d.Waiting)))
		lookAtCrash(t, d, mixedKept(r.Intn(mostWaiting+3), r))
		lookAtWriteTo(t, d, r.Intn(mostSectors), mixedData(r))
	}
}

func TestWhatIsKeptIsWritten(t *testing.T) {
	two := diskModel{3: "old"}.disk(impl.Write{At: 3, Data: "first"}, impl.Write{At: 3, Data: "second"})
	for _, c := range []struct {
		kept []bool
		want string
	}{{[]bool{false, false}, "old"}, {[]bool{true, false}, "first"}, {[]bool{false, true}, "second"}, {[]bool{true, true}, "second"}} {
		d, ok := impl.CrashDisk(two, c.kept)
		lookAtDisk(t, d, ok, diskModel{3: c.want}.disk(), "CrashDisk", c.kept)
	}
	for name, d := range goodDisks() {
		for many := range len(d.Waiting) + 4 {
			for _, is := range []bool{false, true} {
				kept := slices.Repeat([]bool{is}, many)
				if _, ok := impl.CrashDisk(d, kept); ok != (many == len(d.Waiting)) {
					t.Errorf("%s: %d kept of %d: %v", name, many, len(d.Waiting), ok)
				}
				lookAtCrash(t, d, kept)
			}
		}
		lookAtCrash(t, d, make([]bool, 1<<20))
	}
	lookAtCrash(t, newDiskModel().disk(), nil)
	lookAtCrash(t, newDiskModel().disk(), []bool{})
}

func lookAtSeal(t *testing.T, s string) {
	t.Helper()
	want := sealByWords(s)
	if got := impl.SealOf(s); got != want {
		t.Errorf("SealOf %s = %s, not %s", quoted(s), quoted(got), quoted(want))
	}
	if got, ok := impl.Unseal(want); got != s || !ok {
		t.Errorf("Unseal %s = %s, %v", quoted(want), quoted(got), ok)
	}
	stopAtFault(t)
}

func lookAtUnseal(t *testing.T, s string) {
	t.Helper()
	want, wantOk := unsealByWords(s)
	if got, ok := impl.Unseal(s); got != want || ok != wantOk {
		t.Errorf("Unseal %s = %s, %v, not %s, %v", quoted(s), quoted(got), ok, quoted(want), wantOk)
	}
	stopAtFault(t)
}

func someSealed() []string {
	l := []string{"", "a", "\x00", "\xff", "\x80", "\x07", "abc", "\x00\x00", "\x00\x00\x00", "\x03\xe7\x48", "\xff\xff\xff", "\xfb\xfb", "\xfa\xfb\xfc", "é", "\n", "日本", strings.Repeat("\x00", 19), strings.Repeat("\xff", 19)}
	for long := range 24 {
		l = append(l, textOfLength(long, byte(11*long)), textOfLength(3*long, 251))
	}
	return l
}

func TestSumsAreAsSaid(t *testing.T) {
	for _, c := range []struct{ s, want string }{
		{"", "\x07"},
		{"\x00", "\x00\xd9"},             // 217
		{"\x01", "\x01\xda"},             // 218
		{"!", "!\xfa"},                   // 250
		{"\"", "\"\x00"},                 // 251
		{"#", "#\x01"},                   // 252
		{"\x80", "\x80\x5e"},             // 345
		{"\xff", "\xff\xdd"},             // 472
		{"\x00\x00", "\x00\x00\xc9"},     // 31 times 217 is 6727, of which 201 is left
		{"\"\xff", "\"\xff\x04"},         // 255
		{"\"\x00\xfa", "\"\x00\xfa\xfa"}, // 250
		{"\"\x00\xfb", "\"\x00\xfb\x00"}, // 251
		{"\"\x00\xfc", "\"\x00\xfc\x01"}, // 252
	} {
		if got := impl.SealOf(c.s); got != c.want {
			t.Errorf("SealOf(%q) = %q, not %q", c.s, got, c.want)
		}
		lookAtSeal(t, c.s)
	}
	for _, s := range someSealed() {
		lookAtSeal(t, s)
	}
	for b := range 1 << 16 {
		lookAtSeal(t, string([]byte{byte(b >> 8), byte(b)}))
	}
	for b := range 256 {
		lookAtSeal(t, string([]byte{byte(b)}))
		lookAtSeal(t, strings.Repeat(string([]byte{byte(b)}), 200))
	}
	lookAtSeal(t, strings.Repeat("\xff", 3000))
}

// TestEachByteOfASealedTextChanged: what is 251 apart has the same sum, all else has another one.
func TestEachByteOfASealedTextChanged(t *testing.T) {
	for _, s := range someSealed() {
		sealed := impl.SealOf(s)
		for at := range len(sealed) {
			for b := range 256 {
				changed := []byte(sealed)
				changed[at] = byte(b)
				lookAtUnseal(t, string(changed))
				apart := b - int(sealed[at])
				same := apart == 0 || at < len(s) && (apart == 251 || apart == -251)
				if got, ok := impl.Unseal(string(changed)); ok != same || ok && got != string(changed[:len(s)]) || !ok && got != "" {
					t.Fatalf("Unseal %q = %q, %v", changed, got, ok)
				}
			}
			lookAtUnseal(t, sealed[:at])
			lookAtUnseal(t, sealed[at:])
			lookAtUnseal(t, sealed+sealed[at:])
		}
	}
}

func TestTextsThatAreNoSeals(t *testing.T) {
	for _, s := range []string{"", "\x08", "\x06", "\x00", "\xff", "\x02", "a", "\x07\x07", "\xfb", "\"\xfb", "#\xfc", "\xc2\x07", "abc", strings.Repeat("a", 1<<20)} {
		lookAtUnsealed(t, s, "", false)
	}
	lookAtUnsealed(t, "\x07", "", true)
	lookAtUnsealed(t, "\"\x00", "\"", true)
	lookAtUnsealed(t, "!\xfa", "!", true)
	for b := range 256 {
		lookAtUnsealed(t, string([]byte{byte(b)}), "", b == 7)
		for sum := range 256 {
			lookAtUnseal(t, string([]byte{byte(b), byte(sum)}))
		}
	}
}

func lookAtUnsealed(t *testing.T, s, want string, wantOk bool) {
	t.Helper()
	if got, ok := impl.Unseal(s); got != want || ok != wantOk {
		t.Errorf("Unseal %s = %s, %v", quoted(s), quoted(got), ok)
	}
}

func TestWhichHalfTells(t *testing.T) {
	first, second := "the first text", textOfLength(72, 9)
	for _, c := range []struct {
		number, other int
		want          string
	}{
		{0, 0, first}, {1, 0, first}, {0, 1, second}, {5, 5, first}, {999, 999, first}, {999, 998, first}, {998, 999, second},
		{255, 256, second}, {256, 255, first}, {511, 256, first}, {1, 256, second}, {256, 1, first}, {0x102, 0x201, second}, {0x201, 0x102, first},
		{1000, 3, second}, {3, 1000, first}, {1000, 0, second}, {0, 1000, first}, {65535, 4, second}, {4, 65535, first}, {1024, 999, second}, {999, 1024, first},
	} {
		lookAtLoaded(t, halvesDisk(first, c.number, second, c.other).disk(), c.want, map[bool]int{true: c.number, false: c.other}[c.want == first])
	}
	for _, silent := range []string{"", "\x07", tellsOf(1000, 3), tellsOf(1, 73), "\x00\x00\x00\x00", tellsOf(5, 5) + "\x07", sealByWords("\x00\x00"), sealByWords("\x00\x00\x00\x00")} {
		for _, other := range []string{"", tellsOf(65535, 255), "\x00\x00\x00\x00"} {
			m := halvesDisk(first, 4, second, 3)
			m[8], m[9] = silent, other
			tellsNothing(t, m.disk())
			m[8], m[9] = other, silent
			tellsNothing(t, m.disk())
		}
		m := halvesDisk(first, 4, second, 3)
		m[8] = silent
		lookAtLoaded(t, m.disk(), second, 3)
		m = halvesDisk(first, 4, second, 5)
		m[9] = silent
		lookAtLoaded(t, m.disk(), first, 4)
	}
}

func TestEachNumberAndEachLengthTold(t *testing.T) {
	for half := range 2 {
		for number := range 1 << 16 {
			m := diskModel{}
			m[8+half] = tellsOf(number, 0)
			if number <= lastSaveNumber {
				lookAtLoaded(t, m.disk(), "", number)
			} else {
				tellsNothing(t, m.disk())
			}
		}
		full := textOfLength(72, 40)
		for length := range 256 {
			m := halvesDisk(full, 0, full, 0)
			m[8], m[9] = "", ""
			m[8+half] = tellsOf(7, length)
			if length <= mostSaved {
				lookAtLoaded(t, m.disk(), full[:length], 7)
			} else {
				tellsNothing(t, m.disk())
			}
		}
	}
}

// TestWhatDoesNotTell changes a telling sector byte by byte, and makes it longer and shorter.
func TestWhatDoesNotTell(t *testing.T) {
	for _, told := range []string{tellsOf(0, 0), tellsOf(999, 72), tellsOf(300, 20), tellsOf(4, 3)} {
		for half := range 2 {
			look := func(sector string) {
				for _, other := range []string{"", tellsOf(2, 30), tellsOf(999, 2)} {
					m := halvesDisk(textOfLength(72, 2), 0, textOfLength(72, 7), 0)
					m[8+half], m[9-half] = sector, other
					lookAtLoad(t, m.disk())
					lookAtPlan(t, m.disk(), "new")
				}
			}
			for at := range 4 {
				for b := range 256 {
					changed := []byte(told)
					changed[at] = byte(b)
					look(string(changed))
					look(sealByWords(string(changed[:3])))
				}
				look(told[:at])
				look(told[at:])
				look(sealByWords(told[:at]))
				look(sealByWords(told[at:]))
			}
			for b := range 256 {
				look(told + string([]byte{byte(b)}))
				look(sealByWords(told[:3] + string([]byte{byte(b)})))
				look(sealByWords(string([]byte{byte(b)}) + told[:3]))
			}
			look(sealByWords(told + told + told + told))
			look(sealByWords(strings.Repeat("\x00", 19)))
		}
	}
}

// TestHalvesShorterAndLongerThanTheText: only 18 bytes of a sector are the text's, as far as they go.
func TestHalvesShorterAndLongerThanTheText(t *testing.T) {
	for _, c := range []struct {
		sectors string
		length  int
		want    string
		ok      bool
	}{
		{"", 0, "", true}, {"", 1, "", false}, {"a", 0, "", true}, {"a", 1, "a", true}, {"a", 2, "", false},
		{"a|b|c|d", 4, "abcd", true}, {"a|b|c|d", 3, "abc", true}, {"a|b|c|d", 5, "", false}, {"|||d", 1, "d", true}, {"|b||d", 2, "bd", true}, {"|b||d", 3, "", false},
		{"abcdefghijklmnopqr", 18, "abcdefghijklmnopqr", true}, {"abcdefghijklmnopqrst", 18, "abcdefghijklmnopqr", true}, {"abcdefghijklmnopqrst", 19, "", false},
		{"abcdefghijklmnopqrst|uvw", 19, "abcdefghijklmnopqru", true}, {"abcdefghijklmnopqrs|uvw", 21, "abcdefghijklmnopqruvw", true}, {"abcdefghijklmnopq|uvw", 20, "abcdefghijklmnopquvw", true},
		{"abcdefghijklmnopqrst|abcdefghijklmnopqrst|abcdefghijklmnopqrst|abcdefghijklmnopqrst", 72, strings.Repeat("abcdefghijklmnopqr", 4), true},
		{"abcdefghijklmnopqrst|abcdefghijklmnopqrst|abcdefghijklmnopqrst|abcdefghijklmnopq", 72, "", false},
		{"abcdefghijklmnopqrst|abcdefghijklmnopqrst|abcdefghijklmnopqrst|abcdefghijklmnopq", 71, strings.Repeat("abcdefghijklmnopqr", 4)[:71], true},
		{"abcdefghijklmnopqr||abcdefghijklmnopqrst|x", 37, "abcdefghijklmnopqrabcdefghijklmnopqrx", true},
	} {
		for half := range 2 {
			m := halvesDisk(textOfLength(72, 5), 3, textOfLength(72, 8), 3) // an older text that is whole doesn't stand in for it
			copy(m[4*half:4*half+4], make([]string, 4))
			copy(m[4*half:4*half+4], strings.Split(c.sectors, "|"))
			m[8+half] = tellsOf(4, c.length)
			if c.ok {
				lookAtLoaded(t, m.disk(), c.want, 4)
			} else {
				tellsNothing(t, m.disk())
			}
			lookAtLoad(t, m.disk())
			lookAtPlan(t, m.disk(), "new")
		}
	}
}

func TestDisksThatMayTell(t *testing.T) {
	r := rand.New(rand.NewSource(171))
	counts := map[string]int{}
	for range 20000 {
		d := mixedDisk(r.Intn(3), r)
		m := modelOfDisk(d)
		_, number, is := m.load()
		counts[fmt.Sprint("half ", m.newestHalf(), " ", is)]++
		counts[fmt.Sprint("number ", number)]++
		lookAtLoad(t, d)
		text := mixedText(r)
		lookAtPlan(t, d, text)
		lookAtSave(t, d, text, r.Intn(8))
		d.Waiting = nil
		lookAtSave(t, d, text, r.Intn(10)-1)
	}
	metAll(t, counts, 100, "half -1 false, half 0 true, half 0 false, half 1 true, half 1 false, number 999, number 998, number 0")
}

// TestWhatWaitsIsNotThere: only what is written is read.
func TestWhatWaitsIsNotThere(t *testing.T) {
	m := halvesDisk("one", 1, "two", 2)
	for _, writes := range [][]impl.Write{
		{{At: 9, Data: ""}}, {{At: 8, Data: tellsOf(3, 3)}}, {{At: 9, Data: tellsOf(9, 2)}}, {{At: 4, Data: "another"}}, {{At: 0}, {At: 1}, {At: 4}, {At: 8}, {At: 9}},
	} {
		d := m.disk(writes...)
		lookAtLoaded(t, d, "two", 2)
		lookAtPlan(t, d, "new")
		got, ok := impl.PlanOf(d, "new")
		want, wantOk := impl.PlanOf(m.disk(), "new")
		if !slices.Equal(got, want) || !ok || !wantOk {
			t.Error(quoted(got, want))
		}
		lookAtSave(t, d, "new", 0)
		lookAtSave(t, d, "new", 7)
	}
}

func TestPlansOfTexts(t *testing.T) {
	var texts []string
	for long := range 80 {
		texts = append(texts, textOfLength(long, byte(3*long)))
	}
	texts = append(texts, strings.Repeat("\x00", 72), strings.Repeat("\xff", 73), strings.Repeat("a", 256), strings.Repeat("a", 256+18), strings.Repeat("a", 1<<20))
	disks := []diskModel{newDiskModel(), halvesDisk("one", 1, "two", 2), halvesDisk("one", 3, "two", 2), halvesDisk("one", 4, "two", 4), halvesDisk(textOfLength(72, 1), 255, "", 254), halvesDisk("", 510, "two", 511)}
	for _, m := range disks {
		for _, text := range texts {
			lookAtPlan(t, m.disk(), text)
			lookAtSave(t, m.disk(), text, 7)
			if _, ok := impl.PlanOf(m.disk(), text); ok != (len(text) <= mostSaved) {
				t.Fatal(len(text), ok)
			}
		}
	}
	long := textOfLength(72, 'A')
	for _, c := range []struct {
		text string
		data []string
	}{
		{"", []string{"", "", "", ""}},
		{long[:1], []string{long[:1], "", "", ""}},
		{long[:18], []string{long[:18], "", "", ""}},
		{long[:19], []string{long[:18], long[18:19], "", ""}},
		{long[:36], []string{long[:18], long[18:36], "", ""}},
		{long[:55], []string{long[:18], long[18:36], long[36:54], long[54:55]}},
		{long, []string{long[:18], long[18:36], long[36:54], long[54:]}},
	} {
		for half := range 2 {
			m := halvesDisk("one", 7+half, "two", 8)
			var want []impl.Write
			for i, data := range c.data {
				want = append(want, impl.Write{At: 4*half + i, Data: data})
			}
			want = append(want, impl.Write{At: 8 + half, Data: tellsOf(9, len(c.text))})
			if got, ok := impl.PlanOf(m.disk(), c.text); !slices.Equal(got, want) || !ok {
				t.Errorf("PlanOf %s = %s, %v, not %s", quoted(m, c.text), quoted(got), ok, quoted(want))
			}
		}
	}
}

func TestPlansUpToTheLastNumber(t *testing.T) {
	for number := range 1100 {
		for half := range 2 {
			m := diskModel{}
			m[8+half] = tellsOf(number, 0)
			lookAtPlan(t, m.disk(), "a")
			got, ok := impl.PlanOf(m.disk(), "a")
			if ok != (number < lastSaveNumber) || ok && got[4] != (impl.Write{At: 9 - half, Data: tellsOf(number+1, 1)}) {
				t.Fatal(number, half, quoted(got), ok)
			}
			for done := range 8 {
				lookAtSave(t, m.disk(), "a", done)
			}
		}
	}
	for _, m := range []diskModel{{}, {8: "\x07"}, {8: tellsOf(1000, 0), 9: tellsOf(0, 73)}, {8: tellsOf(0, 1)}, {8: tellsOf(3, 1), 9: tellsOf(1, 0)}, {8: tellsOf(999, 0), 9: tellsOf(1, 0)}} {
		if got, ok := impl.PlanOf(m.disk(), "a"); len(got) != 0 || ok {
			t.Error(quoted(m, got), ok)
		}
		for done := range 8 {
			got, ok := impl.SaveTo(m.disk(), "a", done)
			refusesDisk(t, got, ok, "SaveTo", m, done)
		}
	}
}

// TestTheStepsOfASave has each of them by hand.
func TestTheStepsOfASave(t *testing.T) {
	text := textOfLength(60, 'k')
	old := halvesDisk("one", 5, "two", 4)
	w := []impl.Write{{At: 4, Data: text[:18]}, {At: 5, Data: text[18:36]}, {At: 6, Data: text[36:54]}, {At: 7, Data: text[54:]}, {At: 9, Data: tellsOf(6, 60)}}
	behind := []impl.Disk{
		old.disk(), old.disk(w[0]), old.disk(w[:2]...), old.disk(w[:3]...), old.disk(w[:4]...),
		old.written(w[:4]...).disk(), old.written(w[:4]...).disk(w[4]), old.written(w...).disk(),
	}
	for done, want := range behind {
		got, ok := impl.SaveTo(old.disk(), text, done)
		lookAtDisk(t, got, ok, want, "SaveTo, done", done)
		lookAtSave(t, old.disk(), text, done)
	}
	for _, done := range []int{math.MinInt, -8, -7, -2, -1, 8, 9, 255, 256, 257, 1 << 32, 1<<32 + 3, math.MaxInt} {
		for _, m := range []diskModel{old, newDiskModel(), {}} {
			got, ok := impl.SaveTo(m.disk(), text, done)
			refusesDisk(t, got, ok, "SaveTo, done", done)
			got, ok = impl.SaveTo(m.disk(), "", done)
			refusesDisk(t, got, ok, "SaveTo, done", done)
		}
	}
}

func TestASaveWhileSomethingWaits(t *testing.T) {
	for done := -1; done <= 8; done++ {
		for _, writes := range [][]impl.Write{{{At: 0}}, {{At: 9, Data: "a"}}, {{At: 1}, {At: 2}}, make([]impl.Write, mostWaiting), make([]impl.Write, mostWaiting-5)} {
			got, ok := impl.SaveTo(newDiskModel().disk(writes...), "a", done)
			refusesDisk(t, got, ok, "SaveTo, done", done)
		}
		for _, text := range []string{strings.Repeat("a", 73), strings.Repeat("a", 328)} {
			got, ok := impl.SaveTo(impl.NewDisk(), text, done)
			refusesDisk(t, got, ok, "SaveTo of too long a text, done", done)
		}
	}
	for _, none := range [][]impl.Write{nil, {}} {
		got, ok := impl.SaveTo(impl.Disk{Sectors: impl.NewDisk().Sectors, Waiting: none}, "a", 1)
		lookAtDisk(t, got, ok, newDiskModel().disk(impl.Write{At: 4, Data: "a"}), "SaveTo")
	}
}

// lookAtSurvivor asks which text is there: the newest one that was saved whole, or the one that was on its way.
func lookAtSurvivor(t *testing.T, l []string, done int, kept []bool) {
	t.Helper()
	lookAtSaves(t, l, done, kept)
	d, _ := impl.PlaySaves(l, done, kept)
	last := len(l) - 1
	before := append([]string{""}, l...)[last]
	isNew := done == 7 || done == 6 && len(kept) > 0 && kept[0]
	if isNew {
		lookAtLoaded(t, d, l[last], last+1)
	} else {
		lookAtLoaded(t, d, before, last)
	}
	if !impl.GoodDisk(d) || len(d.Waiting) > 0 {
		t.Fatal(quoted(d))
	}
}

func eachKept(most int, look func([]bool)) {
	eachRow([]bool{false, true}, most, look)
}

// TestWhateverFallsTheNewestTextIsThere is promise 17.
func TestWhateverFallsTheNewestTextIsThere(t *testing.T) {
	r := rand.New(rand.NewSource(172))
	rows := [][]string{{""}, {"a"}, {textOfLength(72, 3)}, {"", ""}, {"a", "a"}, {"a", ""}, {"", "a"}, {textOfLength(72, 1), "x"}, {"x", textOfLength(72, 1)}, {"a", "b", "a"}, sectorsOf(mostLog, "same")}
	for i := range 90 {
		rows = append(rows, mixedTexts(1+i%6, r), mixedTexts(1+r.Intn(mostLog), r))
	}
	for many := 1; many <= mostLog; many++ {
		rows = append(rows, mixedTexts(many, r))
	}
	for _, l := range rows {
		for done := range 8 {
			eachKept(4, func(kept []bool) { lookAtSurvivor(t, l, done, kept) })
			lookAtSurvivor(t, l, done, mixedKept(5+r.Intn(60), r))
		}
	}
}

func TestEachLengthSurvives(t *testing.T) {
	for long := range mostSaved + 1 {
		for _, l := range [][]string{{textOfLength(long, 1)}, {textOfLength(72, 9), textOfLength(long, 1)}, {textOfLength(long, 1), textOfLength(72-long, 9)}, {"", textOfLength(long, 77), textOfLength(71, 3), textOfLength(long, 1)}} {
			for done := range 8 {
				eachKept(4, func(kept []bool) { lookAtSurvivor(t, l, done, kept) })
			}
		}
	}
}

// TestOneCrashBehindTheOther saves on and on, and most saves fall: there is always the newest text that came whole.
func TestOneCrashBehindTheOther(t *testing.T) {
	r := rand.New(rand.NewSource(173))
	for range 60 {
		d, text, number := impl.NewDisk(), "", 0
		for range 200 {
			next, done := mixedText(r), r.Intn(8)
			lookAtSave(t, d, next, done)
			d = mustSave(t, d, next, done)
			kept := mixedKept(len(d.Waiting), r)
			lookAtCrash(t, d, kept)
			d = mustCrash(t, d, kept)
			if done == 7 || done == 6 && kept[0] {
				text, number = next, number+1
			}
			lookAtLoaded(t, d, text, number)
			lookAtLoad(t, d)
		}
	}
}

// TestASaveOfAnyDiskFallsToTheOldTextOrToTheNewOne asks of disks that PlaySaves can't make, too.
func TestASaveOfAnyDiskFallsToTheOldTextOrToTheNewOne(t *testing.T) {
	r := rand.New(rand.NewSource(174))
	met := 0
	for range 3000 {
		d := mixedDisk(0, r)
		old, number, tells := impl.LoadFrom(d)
		if !tells || number == lastSaveNumber {
			continue
		}
		met++
		text := mixedText(r)
		for done := range 8 {
			waits := mustSave(t, d, text, done)
			eachKept(len(waits.Waiting), func(kept []bool) {
				if len(kept) < len(waits.Waiting) {
					return
				}
				then := mustCrash(t, waits, kept)
				if done == 7 || done == 6 && kept[0] {
					lookAtLoaded(t, then, text, number+1)
				} else {
					lookAtLoaded(t, then, old, number)
				}
			})
		}
	}
	if met < 500 {
		t.Error(met)
	}
}

func TestSavesUpToTheLastNumber(t *testing.T) {
	d := impl.NewDisk()
	for number := 1; number <= lastSaveNumber; number++ {
		d = mustSave(t, d, fmt.Sprint("text ", number), 7)
		lookAtLoaded(t, d, fmt.Sprint("text ", number), number)
	}
	for done := range 8 {
		got, ok := impl.SaveTo(d, "one more", done)
		refusesDisk(t, got, ok, "SaveTo behind the last number")
	}
	if got, ok := impl.PlanOf(d, ""); len(got) != 0 || ok {
		t.Error(quoted(got), ok)
	}
}

func TestPlayOfNoTextAndOfTooMany(t *testing.T) {
	for many := range mostLog + 4 {
		for done := -1; done <= 8; done++ {
			l := sectorsOf(many, "text")
			for _, kept := range [][]bool{nil, {}, {true}, {false}, {true, true, true, true}, make([]bool, 9)} {
				lookAtSaves(t, l, done, kept)
				if _, ok := impl.PlaySaves(l, done, kept); ok != (many >= 1 && many <= mostLog && done >= 0 && done <= 7) {
					t.Fatal(many, done, ok)
				}
			}
		}
	}
	for _, l := range [][]string{nil, {}, make([]string, mostLog+1), make([]string, 1<<20), make([]string, 1<<16)} {
		for done := range 8 {
			got, ok := impl.PlaySaves(l, done, nil)
			refusesDisk(t, got, ok, "PlaySaves of so many", len(l))
		}
	}
	for _, done := range []int{math.MinInt, -8, -2, -1, 8, 9, 255, 256, 1 << 32, math.MaxInt} {
		for _, l := range [][]string{{"a"}, {"a", "b"}, sectorsOf(mostLog, "a")} {
			got, ok := impl.PlaySaves(l, done, []bool{true})
			refusesDisk(t, got, ok, "PlaySaves, done", done)
		}
	}
}

func TestPlayOfTextsThatAreTooLong(t *testing.T) {
	for _, long := range []int{73, 74, 90, 128, 256, 256 + 72, 1 << 16} {
		for _, many := range []int{1, 2, 3, 7, mostLog - 1, mostLog} {
			for at := range many {
				l := sectorsOf(many, "text")
				l[at] = textOfLength(long, 'a')
				for done := range 8 {
					got, ok := impl.PlaySaves(l, done, []bool{true, true, true, true})
					refusesDisk(t, got, ok, "PlaySaves of so many, one of them of so many bytes, at", many, long, at)
				}
				l[at] = textOfLength(72, 'a')
				lookAtSurvivor(t, l, at%8, []bool{true, false, true})
			}
		}
	}
}

// TestKeptOfFewerAsManyAndMore: those left out are not kept, and those beyond what waits are not looked at.
func TestKeptOfFewerAsManyAndMore(t *testing.T) {
	waits := []int{0, 1, 2, 3, 4, 0, 1, 0}
	for _, l := range [][]string{{textOfLength(72, 4)}, {"older", textOfLength(72, 4)}, {"oldest", "older", textOfLength(40, 4)}} {
		for done, many := range waits {
			eachKept(7, func(kept []bool) {
				lookAtSurvivor(t, l, done, kept)
				fit := append(slices.Clone(kept), make([]bool, 4)...)[:many]
				got, _ := impl.PlaySaves(l, done, kept)
				want, ok := impl.PlaySaves(l, done, fit)
				lookAtDisk(t, got, ok, want, "PlaySaves", l, done, kept)
			})
			lookAtSurvivor(t, l, done, make([]bool, 1<<16))
			lookAtSurvivor(t, l, done, slices.Repeat([]bool{true}, 1<<16))
		}
	}
	got, ok := impl.PlaySaves([]string{"one", textOfLength(72, 4)}, 4, []bool{false, true})
	want := halvesDisk("", 0, "one", 1)
	lookAtDisk(t, got, ok, want.written(impl.Write{At: 1, Data: textOfLength(72, 4)[18:36]}).disk(), "PlaySaves")
}

func TestDisksThatAreNotGoodAreRefused(t *testing.T) {
	for name, d := range badDisks() {
		for _, at := range []int{-1, 0, 9, 10} {
			got, ok := impl.WriteTo(d, at, "a")
			refusesDisk(t, got, ok, "WriteTo", name)
		}
		got, ok := impl.SyncDisk(d)
		refusesDisk(t, got, ok, "SyncDisk", name)
		for _, is := range []bool{false, true} {
			got, ok = impl.CrashDisk(d, slices.Repeat([]bool{is}, len(d.Waiting)))
			refusesDisk(t, got, ok, "CrashDisk", name)
		}
		got, ok = impl.CrashDisk(d, nil)
		refusesDisk(t, got, ok, "CrashDisk", name)
		tellsNothing(t, d)
		if plan, ok := impl.PlanOf(d, "a"); len(plan) != 0 || ok {
			t.Errorf("PlanOf %s = %s, %v", name, quoted(plan), ok)
		}
		for done := -1; done <= 8; done++ {
			got, ok = impl.SaveTo(d, "a", done)
			refusesDisk(t, got, ok, "SaveTo", name)
			lookAtSave(t, impl.Disk{Sectors: d.Sectors}, "a", done)
		}
	}
}

const behindData = "BEHIND"

var behindWrite = impl.Write{At: 8, Data: behindData}

// diskWithBehind puts memory behind each list of a disk.
func diskWithBehind(d impl.Disk) impl.Disk {
	return impl.Disk{Sectors: withBehind(d.Sectors, behindData), Waiting: withBehind(d.Waiting, behindWrite)}
}

// wholeDisk has also what lies behind the lengths, in memory of its own.
func wholeDisk(d impl.Disk) impl.Disk {
	return impl.Disk{Sectors: whole(d.Sectors), Waiting: whole(d.Waiting)}
}

// handsOutDiskBehind asks also for what an answer had itself, and has no more.
func handsOutDiskBehind(d impl.Disk) bool {
	all := wholeDisk(d)
	return strings.Join(all.Sectors[len(d.Sectors):], "") != "" || slices.ContainsFunc(all.Waiting[len(d.Waiting):], func(w impl.Write) bool { return w != impl.Write{} })
}

func markedData(n int) string {
	return fmt.Sprint("mark ", n)
}

func writesList(name string, l []impl.Write) memoryList {
	return listOf(name, l, func(n int) impl.Write { return impl.Write{At: -n, Data: markedData(n)} }, func(v, w impl.Write) bool { return v == w })
}

func diskLists(name string, d impl.Disk) []memoryList {
	return []memoryList{
		listOf(name+" Sectors", d.Sectors, markedData, func(a, b string) bool { return a == b }),
		writesList(name+" Waiting", d.Waiting),
	}
}

// lookAtDiskMemory hands all in with memory behind it, holds what is answered against what is answered without it, writes into all of it, and looks at the arguments again.
func lookAtDiskMemory(t *testing.T, d impl.Disk, text string, done int, kept []bool) {
	t.Helper()
	given, givenKept := diskWithBehind(d), withBehind(kept, true)
	wasGiven, wasKept := wholeDisk(given), whole(givenKept)
	look := func(name string, answer func(impl.Disk, []bool) (impl.Disk, bool)) {
		t.Helper()
		got, ok := answer(given, givenKept)
		want, wantOk := answer(d, kept)
		if !sameDisk(got, want) || ok != wantOk || handsOutDiskBehind(got) {
			t.Errorf("%s of %s = %s, %v, not %s", name, quoted(d), quoted(wholeDisk(got)), ok, quoted(want))
		}
		again, _ := answer(given, givenKept)
		lookAtLists(t, name, slices.Concat(diskLists("the answer", got), diskLists("without", want), diskLists("again", again)))
		if !sameDisk(wholeDisk(given), wasGiven) || !slices.Equal(whole(givenKept), wasKept) {
			t.Fatalf("%s: %s became %s", name, quoted(wasGiven, wasKept), quoted(wholeDisk(given), whole(givenKept)))
		}
	}
	look("WriteTo", func(d impl.Disk, _ []bool) (impl.Disk, bool) { return impl.WriteTo(d, done, text) })
	look("SyncDisk", func(d impl.Disk, _ []bool) (impl.Disk, bool) { return impl.SyncDisk(d) })
	look("CrashDisk", impl.CrashDisk)
	look("SaveTo", func(d impl.Disk, _ []bool) (impl.Disk, bool) { return impl.SaveTo(d, text, done) })
	look("PlanOf", func(d impl.Disk, _ []bool) (impl.Disk, bool) {
		plan, ok := impl.PlanOf(d, text)
		return impl.Disk{Waiting: plan}, ok
	})
	look("LoadFrom", func(d impl.Disk, _ []bool) (impl.Disk, bool) {
		loaded, number, ok := impl.LoadFrom(d)
		return impl.Disk{Sectors: []string{loaded}, Waiting: []impl.Write{{At: number}}}, ok
	})
	look("GoodDisk", func(d impl.Disk, _ []bool) (impl.Disk, bool) { return impl.Disk{}, impl.GoodDisk(d) })
	stopAtFault(t)
}

func TestDisksAreNotWrittenIntoNorShared(t *testing.T) {
	r := rand.New(rand.NewSource(175))
	for _, d := range goodDisks() {
		for done := -1; done <= 9; done++ {
			for _, text := range []string{"", "text", textOfLength(20, 1), textOfLength(21, 1), textOfLength(72, 1), textOfLength(73, 1)} {
				lookAtDiskMemory(t, d, text, done, mixedKept(len(d.Waiting), r))
			}
		}
		lookAtDiskMemory(t, d, "text", 7, make([]bool, len(d.Waiting)+1))
		lookAtDiskMemory(t, impl.Disk{Sectors: d.Sectors}, "text", 7, nil)
	}
	for _, d := range badDisks() {
		if len(d.Sectors) < 1000 && len(d.Waiting) < 1000 {
			lookAtDiskMemory(t, d, "text", 7, make([]bool, len(d.Waiting)))
		}
	}
	for range 500 {
		d := mixedDisk(r.Intn(5), r)
		lookAtDiskMemory(t, d, mixedText(r), r.Intn(8), mixedKept(len(d.Waiting), r))
		d.Waiting = nil
		lookAtDiskMemory(t, d, mixedText(r), r.Intn(8), nil)
	}
}

// TestWritesBehindAnAnswerDontMeet goes on from one disk twice: neither way shows in the other one.
func TestWritesBehindAnAnswerDontMeet(t *testing.T) {
	d := impl.NewDisk()
	for i := range mostWaiting - 1 {
		then, _ := impl.WriteTo(d, i%mostSectors, "a")
		one, _ := impl.WriteTo(then, 1, "one")
		two, _ := impl.WriteTo(then, 2, "two")
		if one.Waiting[i+1] != (impl.Write{At: 1, Data: "one"}) || two.Waiting[i+1] != (impl.Write{At: 2, Data: "two"}) || len(then.Waiting) != i+1 {
			t.Fatal(quoted(then, one, two))
		}
		d = then
	}
}

func TestPlayedSavesAreNotShared(t *testing.T) {
	r := rand.New(rand.NewSource(176))
	for range 300 {
		l, kept, done := mixedTexts(1+r.Intn(5), r), mixedKept(r.Intn(6), r), r.Intn(8)
		givenTexts, givenKept := withBehind(l, behindData), withBehind(kept, true)
		wasTexts, wasKept := whole(givenTexts), whole(givenKept)
		got, ok := impl.PlaySaves(givenTexts, done, givenKept)
		want, wantOk := impl.PlaySaves(l, done, kept)
		if !sameDisk(got, want) || !ok || !wantOk || handsOutDiskBehind(got) {
			t.Fatalf("PlaySaves %s = %s, not %s", quoted(l, done, kept), quoted(wholeDisk(got)), quoted(want))
		}
		lookAtLists(t, "PlaySaves", slices.Concat(diskLists("one", got), diskLists("another one", want)))
		if !slices.Equal(whole(givenTexts), wasTexts) || !slices.Equal(whole(givenKept), wasKept) {
			t.Fatal(quoted(givenTexts, givenKept))
		}
		lookAtSaves(t, l, done, kept)
	}
	full := sectorsOf(mostLog, "text")
	for _, many := range []int{0, mostLog} {
		lookAtSaves(t, withBehind(full[:many], behindData), 7, nil)
	}
}

// TestTheJournalGivesUpByPanic looks for faults that are given up by, and for what catches them.
func TestTheJournalGivesUpByPanic(t *testing.T) {
	parsed, err := parser.ParseFile(token.NewFileSet(), "../impl/l17_journal.go", nil, parser.SkipObjectResolution)
	if err != nil {
		t.Fatal(err)
	}
	panics, caught := 0, 0
	ast.Inspect(parsed, func(n ast.Node) bool {
		switch x := n.(type) {
		case *ast.CallExpr:
			if f, is := x.Fun.(*ast.Ident); is && f.Name == "panic" {
				panics++
			}
		case *ast.DeferStmt:
			if f, is := x.Call.Fun.(*ast.FuncLit); is {
				ast.Inspect(f, func(n ast.Node) bool {
					if c, is := n.(*ast.Ident); is && c.Name == "recover" {
						caught++
					}
					return true
				})
			}
		}
		return true
	})
	if panics == 0 || caught == 0 {
		t.Error(panics, caught)
	}
}
