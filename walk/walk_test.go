package walk_test

import (
	"math"
	"testing"

	"priory/api"
	"priory/mem"
	"priory/walk"
	"priory/word"
)

// The bits of an entry's word, as the document tells them.
const (
	present = 1 << 0
	write   = 1 << 1
	cow     = 1 << 2
)

// off are numbers that are no frame's and no page's, whatever the memory.
var off = []int{math.MinInt, math.MinInt + 1, -1 << 32, -1 << 31, -1025, -1024, -33, -32, -2, -1, 1024, 1025, 1 << 15, math.MaxInt32, 1 << 32, 1<<32 + 1, math.MaxInt - 1, math.MaxInt}

// noAddress are words that are no address.
var noAddress = []api.Word{0x8000, 0x8001, 0x8443, 0xffff, 0x10000, 0x10443, 1 << 20, 1 << 31, math.MaxInt32, math.MaxUint32 - 1, math.MaxUint32}

// noEntry are words that are no entry's: bits of no field, fields without Present, Cow and Write.
var noEntry = []api.Word{write, cow, write | cow, 1 << 8, 3 << 8, 1 << 17, 1<<8 | write, present | write | cow, 1<<8 | present | write | cow, 1 << 3, present | 1<<3, present | 1<<4, present | 1<<5, present | 1<<6, present | 1<<7, present | 1<<18, present | 1<<19, present | 1<<31, 1 << 18, 1 << 31, math.MaxUint32}

// entry is the word of one that is Present.
func entry(frame int, bits api.Word) api.Word { return api.Word(frame)<<8 | bits | present }

// model is a memory as the document tells it: a word of each place.
type model [][32]api.Word

// laid is a memory that has the model's words.
func laid(t *testing.T, want model) *mem.Mem {
	t.Helper()
	m, err := mem.New(len(want))
	if err != api.OK {
		t.Fatalf("New(%d): %d", len(want), err)
	}
	for f := range want {
		for p, w := range want[f] {
			if err := m.Write(f, p, w); err != api.OK {
				t.Fatalf("Write(%d, %d): %d", f, p, err)
			}
		}
	}
	return m
}

// same holds a whole memory against its model.
func same(t *testing.T, m *mem.Mem, want model) {
	t.Helper()
	for f := range want {
		for p := range want[f] {
			if w, err := m.Read(f, p); w != want[f][p] || err != api.OK {
				t.Fatalf("the word %d, %d is %#x (%d), want %#x", f, p, w, err, want[f][p])
			}
		}
	}
}

// clone is the same words once more.
func (m model) clone() model { return append(model(nil), m...) }

// has tells whether there is a frame.
func (m model) has(frame int) bool { return frame >= 0 && frame < len(m) }

// bad tells whether a word is no entry's, or one's that names no frame of the memory.
func (m model) bad(w api.Word) bool {
	switch {
	case w == 0:
		return false
	case w&present == 0, w&write != 0 && w&cow != 0, w&^0x3ff07 != 0:
		return true
	}
	return !m.has(int(w >> 8))
}

// at is the walk, as the document's list tells it; w is the page's entry.
func (m model) at(root int, va api.Word, writes bool) (frame, place int, w api.Word, f api.Fault) {
	if va > 0x7fff {
		return 0, 0, 0, api.FtRange
	}
	if !m.has(root) {
		return 0, 0, 0, api.FtBad
	}
	w = m[root][va>>10]
	if m.bad(w) {
		return 0, 0, 0, api.FtBad
	}
	if w == 0 {
		return 0, 0, 0, api.FtTable
	}
	w = m[w>>8][va>>5&31]
	if m.bad(w) {
		return 0, 0, 0, api.FtBad
	}
	if w == 0 {
		return 0, 0, 0, api.FtPage
	}
	if writes && w&cow != 0 {
		return 0, 0, 0, api.FtCow
	}
	if writes && w&write == 0 {
		return 0, 0, 0, api.FtWrite
	}
	return int(w >> 8), int(va & 31), w, api.FtNone
}

// asked holds At and Load against the model, of one address, and Look of its page.
func asked(t *testing.T, m *mem.Mem, want model, root int, va api.Word) {
	t.Helper()
	for _, writes := range []bool{false, true} {
		wf, wp, _, wft := want.at(root, va, writes)
		if f, p, ft := walk.At(m, root, va, writes); f != wf || p != wp || ft != wft {
			t.Fatalf("At(%d, %#x, %t): %d %d, fault %d; want %d %d, fault %d", root, va, writes, f, p, ft, wf, wp, wft)
		}
	}
	f, p, w, wft := want.at(root, va, false)
	var word api.Word
	if wft == api.FtNone {
		word = want[f][p]
	}
	if got, ft := walk.Load(m, root, va); got != word || ft != wft {
		t.Fatalf("Load(%d, %#x): %#x, fault %d; want %#x, fault %d", root, va, got, ft, word, wft)
	}
	if va > 0x7fff {
		return
	}
	wantE, wantErr := api.Entry{}, api.OK
	switch wft {
	case api.FtBad:
		wantErr = api.ErrForm
	case api.FtTable:
		wantErr = api.ErrNone
	case api.FtNone:
		wantE = api.Entry{Present: true, Write: w&write != 0, Cow: w&cow != 0, Frame: f}
	}
	if e, err := walk.Look(m, root, int(va>>5)); e != wantE || err != wantErr {
		t.Fatalf("Look(%d, %d): %+v %d; want %+v %d", root, va>>5, e, err, wantE, wantErr)
	}
}

// stored stores a word and holds what became of the memory against the model, in which it is put too.
func stored(t *testing.T, m *mem.Mem, want model, root int, va, w api.Word) {
	t.Helper()
	f, p, _, wft := want.at(root, va, true)
	if ft := walk.Store(m, root, va, w); ft != wft {
		t.Fatalf("Store(%d, %#x): fault %d, want %d", root, va, ft, wft)
	}
	if wft == api.FtNone {
		want[f][p] = w
	}
	same(t, m, want)
}

// unreached asks At, Load and Store for an address that they can't reach: want is the fault.
func unreached(t *testing.T, m *mem.Mem, root int, va api.Word, want api.Fault) {
	t.Helper()
	for _, writes := range []bool{false, true} {
		if f, p, ft := walk.At(m, root, va, writes); f != 0 || p != 0 || ft != want {
			t.Errorf("At(%d, %#x, %t): %d %d, fault %d, want %d", root, va, writes, f, p, ft, want)
		}
	}
	if w, ft := walk.Load(m, root, va); w != 0 || ft != want {
		t.Errorf("Load(%d, %#x): %#x, fault %d, want %d", root, va, w, ft, want)
	}
	if ft := walk.Store(m, root, va, 7); ft != want {
		t.Errorf("Store(%d, %#x): fault %d, want %d", root, va, ft, want)
	}
}

// dice is a row of numbers that are the same each time.
type dice uint64

// below is the next number, from 0 to n-1.
func (d *dice) below(n int) int {
	*d = *d*6364136223846793005 + 1442695040888963407
	return int(uint64(*d)>>33) % n
}

// word is one that may stand in a table: mostly an entry, or next to one.
func (d *dice) word(frames int) api.Word {
	switch d.below(8) {
	case 0:
		return 0
	case 1:
		return noEntry[d.below(len(noEntry))]
	case 2:
		return entry(frames+d.below(2), api.Word(d.below(3)<<1))
	case 3:
		return entry(d.below(1024), api.Word(d.below(4)<<1))
	}
	return entry(d.below(frames), api.Word(d.below(3)<<1))
}

// thrown is a memory of words that may stand in tables.
func (d *dice) thrown(frames int) model {
	m := make(model, frames)
	for f := range m {
		for p := range m[f] {
			m[f][p] = d.word(frames)
		}
	}
	return m
}

// full is a memory where every page of the root 0 is there: the tables are the frames 1 to 32, the pages go round through 33 to 40, and may be written to, be copied ahead, or neither.
func full() model {
	m := make(model, 41)
	for f := range 32 {
		m[0][f] = entry(1+f, 0)
		for p := range 32 {
			m[1+f][p] = entry(33+(f*32+p)%8, []api.Word{0, write, cow}[(f+p)%3])
		}
	}
	for f := 33; f < 41; f++ {
		for p := range 32 {
			m[f][p] = api.Word(f*32+p) * 0x9e3779b1
		}
	}
	return m
}

func TestAtOfEveryAddress(t *testing.T) { // P3.1, P3.2, P3.3
	want := full()
	m := laid(t, want)
	for va := api.Word(0); va < 0x8000; va++ {
		asked(t, m, want, 0, va)
	}
	same(t, m, want)
}

func TestAtOfAnything(t *testing.T) { // P3.1, P3.2, P3.3
	d := dice(3)
	for _, frames := range []int{1, 2, 3, 7, 33, 255, 256, 1023, 1024} {
		want := d.thrown(frames)
		m := laid(t, want)
		for range 4000 {
			asked(t, m, want, d.below(frames), api.Word(d.below(0x8000)))
			asked(t, m, want, d.below(frames+2)-1, api.Word(d.below(0x8010)))
		}
		same(t, m, want)
	}
}

func TestNoAddress(t *testing.T) { // P3.1, P3.3
	want := full()
	m := laid(t, want)
	// FtRange goes ahead of all, of no frame root and no memory too.
	for _, m := range []*mem.Mem{m, nil, {}} {
		for _, root := range append([]int{0, 1, 40, 41}, off...) {
			for _, va := range noAddress {
				unreached(t, m, root, va, api.FtRange)
			}
		}
	}
	same(t, m, want)
}

func TestNoRoot(t *testing.T) { // P3.1, P3.2, P3.3
	for _, frames := range []int{1, 2, 41, 1023, 1024} {
		want := make(model, frames)
		m := laid(t, want)
		for _, root := range append([]int{frames, frames + 1}, off...) {
			for _, va := range []api.Word{0, 1, 0x443, 0x7fff} {
				asked(t, m, want, root, va)
				unreached(t, m, root, va, api.FtBad)
			}
		}
		same(t, m, want)
	}
}

func TestNoMemory(t *testing.T) { // P3.1, P3.2, P3.3
	left, _ := mem.New(0)
	for _, m := range []*mem.Mem{nil, left, {}, new(mem.Mem)} {
		for _, root := range append([]int{0, 1}, off...) {
			for _, va := range []api.Word{0, 1, 0x443, 0x7fff} {
				unreached(t, m, root, va, api.FtBad)
			}
			// ErrNil goes ahead of ErrArg.
			for _, page := range append([]int{0, 1, 1023}, off...) {
				if e, err := walk.Look(m, root, page); e != (api.Entry{}) || err != api.ErrNil {
					t.Errorf("Look(%d, %d): %+v %d, want ErrNil", root, page, e, err)
				}
			}
		}
	}
}

// fault holds the faults of one address of the root 0 against what they must be, to read and to write.
func fault(t *testing.T, m *mem.Mem, va api.Word, read, write api.Fault) {
	t.Helper()
	if _, _, ft := walk.At(m, 0, va, false); ft != read {
		t.Errorf("At(%#x, to read): fault %d, want %d", va, ft, read)
	}
	if _, _, ft := walk.At(m, 0, va, true); ft != write {
		t.Errorf("At(%#x, to write): fault %d, want %d", va, ft, write)
	}
}

func TestTheFirstFaultCounts(t *testing.T) { // P3.1
	want := model{
		{0: entry(1, 0), 2: entry(1, write), 3: entry(1, cow), 4: entry(4, 0), 5: entry(1023, 0), 6: write, 31: entry(1, 0)},
		{0: entry(2, 0), 1: entry(2, write), 2: entry(2, cow), 4: entry(4, write), 5: entry(1023, cow), 6: entry(2, write|cow), 7: cow, 31: entry(3, write)},
		{}, {31: 5},
	}
	m := laid(t, want)
	// What the root's entry says of writes does nothing.
	for _, first := range []api.Word{0, 2 << 10, 3 << 10, 31 << 10} {
		fault(t, m, first, api.FtNone, api.FtWrite)
		fault(t, m, first|1<<5, api.FtNone, api.FtNone)
		fault(t, m, first|2<<5|31, api.FtNone, api.FtCow)
		fault(t, m, first|3<<5, api.FtPage, api.FtPage)
		for second := api.Word(4); second < 8; second++ {
			fault(t, m, first|second<<5, api.FtBad, api.FtBad)
		}
		fault(t, m, first|31<<5|31, api.FtNone, api.FtNone)
	}
	for second := range api.Word(32) {
		fault(t, m, 1<<10|second<<5, api.FtTable, api.FtTable)
		for first := api.Word(4); first < 7; first++ {
			fault(t, m, first<<10|second<<5, api.FtBad, api.FtBad)
		}
	}
	fault(t, m, 0x8000, api.FtRange, api.FtRange)
	if w, ft := walk.Load(m, 0, 0x7fff); w != 5 || ft != api.FtNone {
		t.Errorf("Load(0, 0x7fff): %d, fault %d, want 5", w, ft)
	}
}

func TestWordsThatAreNoEntries(t *testing.T) { // P3.1, P3.2, P3.3
	for _, w := range noEntry {
		// In the root, and in its table; frame 0 is a table of itself, so that a fault that is missed leads on.
		for _, want := range []model{{{w, entry(0, write)}}, {{entry(1, 0)}, {w}}} {
			m := laid(t, want)
			asked(t, m, want, 0, 0)
			fault(t, m, 0, api.FtBad, api.FtBad)
			stored(t, m, want, 0, 0, 7)
			if e, err := walk.Look(m, 0, 0); e != (api.Entry{}) || err != api.ErrForm {
				t.Errorf("Look with %#x: %+v %d, want ErrForm", w, e, err)
			}
		}
	}
}

func TestFramesThatThereAreNot(t *testing.T) { // P3.1, P3.2
	for _, frames := range []int{2, 3, 255, 256, 1023, 1024} {
		for frame := range 1024 {
			if frame > 4 && frame < frames-4 {
				continue
			}
			for _, bits := range []api.Word{0, write, cow} {
				want := make(model, frames)
				want[0] = [32]api.Word{0: entry(frame, bits), 1: entry(1, 0)}
				want[1] = [32]api.Word{0: entry(frame, bits)}
				m, err := mem.New(frames)
				if err != api.OK {
					t.Fatal(err)
				}
				for f := range 2 {
					for p := range 2 {
						m.Write(f, p, want[f][p])
					}
				}
				asked(t, m, want, 0, 0)
				asked(t, m, want, 0, 1<<10|5)
				asked(t, m, want, 1, 0)
			}
		}
	}
}

func TestLook(t *testing.T) { // P3.2
	want := full()
	want[0][30], want[0][29], want[0][28] = 0, write, entry(41, 0)
	want[1][0], want[32][31] = 0, entry(40, write)
	m := laid(t, want)
	for _, x := range []struct {
		page int
		e    api.Entry
		err  api.Errno
	}{
		{0, api.Entry{}, api.OK},
		{1, api.Entry{Present: true, Write: true, Frame: 34}, api.OK},
		{2, api.Entry{Present: true, Cow: true, Frame: 35}, api.OK},
		{3, api.Entry{Present: true, Frame: 36}, api.OK},
		{28*32 - 1, api.Entry{Present: true, Write: true, Frame: 40}, api.OK},
		{28 * 32, api.Entry{}, api.ErrForm},
		{29*32 + 31, api.Entry{}, api.ErrForm},
		{30 * 32, api.Entry{}, api.ErrNone},
		{30*32 + 31, api.Entry{}, api.ErrNone},
		{1023, api.Entry{Present: true, Write: true, Frame: 40}, api.OK},
	} {
		if e, err := walk.Look(m, 0, x.page); e != x.e || err != x.err {
			t.Errorf("Look(0, %d): %+v %d, want %+v %d", x.page, e, err, x.e, x.err)
		}
	}
	// ErrArg goes ahead of ErrForm: a root that there is not, and words that are no entries.
	for _, page := range off {
		for _, root := range append([]int{0, 40, 41}, off...) {
			if e, err := walk.Look(m, root, page); e != (api.Entry{}) || err != api.ErrArg {
				t.Errorf("Look(%d, %d): %+v %d, want ErrArg", root, page, e, err)
			}
		}
	}
	for _, root := range append([]int{41, 42}, off...) {
		if e, err := walk.Look(m, root, 1); e != (api.Entry{}) || err != api.ErrForm {
			t.Errorf("Look(%d, 1): %+v %d, want ErrForm", root, e, err)
		}
	}
	same(t, m, want)
}

func TestStoreOfAnything(t *testing.T) { // P3.3, P3.4
	d := dice(5)
	for _, frames := range []int{1, 2, 3, 7, 33} {
		want := d.thrown(frames)
		m := laid(t, want)
		for range 2000 {
			root, va := d.below(frames+2)-1, api.Word(d.below(0x8010))
			w := d.word(frames)
			stored(t, m, want, root, va, w)
			asked(t, m, want, root, va)
		}
	}
}

func TestWhatIsStoredIsLoaded(t *testing.T) { // P3.4
	want := full()
	m := laid(t, want)
	writes := 0
	for va := api.Word(0); va < 0x8000; va += 7 {
		w := va*0x9e3779b1 + 1
		f, p, ft := walk.At(m, 0, va, true)
		if got := walk.Store(m, 0, va, w); got != ft {
			t.Fatalf("Store(0, %#x): fault %d, but At: %d", va, got, ft)
		}
		if ft != api.FtNone {
			continue
		}
		writes++
		if rf, rp, ft := walk.At(m, 0, va, false); rf != f || rp != p || ft != api.FtNone {
			t.Fatalf("At(%#x): %d %d to write, %d %d, fault %d, to read", va, f, p, rf, rp, ft)
		}
		if got, ft := walk.Load(m, 0, va); got != w || ft != api.FtNone {
			t.Fatalf("Load(0, %#x): %#x, fault %d, want %#x", va, got, ft, w)
		}
		want[f][p] = w
	}
	if writes < 1000 {
		t.Fatalf("%d addresses may be written to", writes)
	}
	same(t, m, want)
}

func TestAStoreChangesOneWord(t *testing.T) { // P3.4
	d := dice(7)
	want := full()
	m := laid(t, want)
	changed := 0
	for range 500 {
		old := want.clone()
		va := api.Word(d.below(0x8000))
		stored(t, m, want, 0, va, api.Word(d.below(1<<30))|1<<31)
		n := 0
		for f := range want {
			for p := range want[f] {
				if want[f][p] != old[f][p] {
					n++
				}
			}
		}
		if n > 1 {
			t.Fatalf("a store changed %d words", n)
		}
		changed += n
	}
	if changed < 100 {
		t.Fatalf("%d stores changed a word", changed)
	}
}

func TestStoresWithFaultsChangeNothing(t *testing.T) { // P3.4
	want := model{
		{0: entry(1, write), 2: cow, 3: entry(3, write)},
		{0: entry(2, 0), 1: entry(2, cow), 3: entry(3, write), 4: write, 5: entry(0, write), 31: entry(2, write)},
		{31: 9},
	}
	m := laid(t, want)
	for _, va := range append([]api.Word{0, 31, 1 << 5, 2 << 5, 3 << 5, 4 << 5, 1 << 10, 2 << 10, 3 << 10, 0x7fff}, noAddress...) {
		if ft := walk.Store(m, 0, va, 0x55); ft == api.FtNone {
			t.Errorf("Store(0, %#x): no fault", va)
		}
		same(t, m, want)
	}
	// A page may be the root itself: the word goes there all the same.
	if ft := walk.Store(m, 0, 5<<5|31, entry(1, 0)); ft != api.FtNone {
		t.Errorf("Store to the root: fault %d", ft)
	}
	if w, ft := walk.Load(m, 0, 0x7fff); w != 9 || ft != api.FtNone {
		t.Errorf("Load(0, 0x7fff): %d, fault %d, want 9", w, ft)
	}
}

func TestExamples(t *testing.T) {
	m, err := mem.New(3)
	if err != api.OK {
		t.Fatal(err)
	}
	table, _ := word.Put(api.Entry{Present: true, Frame: 1})
	page, _ := word.Put(api.Entry{Present: true, Write: true, Frame: 2})
	m.Write(0, 1, table)
	m.Write(1, 2, page)
	if f, p, ft := walk.At(m, 0, 0x443, true); f != 2 || p != 3 || ft != api.FtNone {
		t.Errorf("At(0x443, to write): %d %d, fault %d", f, p, ft)
	}
	for _, x := range []struct {
		va api.Word
		ft api.Fault
	}{{0x423, api.FtPage}, {0x43, api.FtTable}, {0x8000, api.FtRange}} {
		if f, p, ft := walk.At(m, 0, x.va, true); f != 0 || p != 0 || ft != x.ft {
			t.Errorf("At(%#x): %d %d, fault %d, want %d", x.va, f, p, ft, x.ft)
		}
	}
}
