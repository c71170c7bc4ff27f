package word_test

import (
	"math"
	"testing"

	"priory/api"
	"priory/word"
)

// flags are all ways to set an entry's three bits.
var flags = []api.Entry{
	{},
	{Present: true},
	{Write: true},
	{Cow: true},
	{Present: true, Write: true},
	{Present: true, Cow: true},
	{Write: true, Cow: true},
	{Present: true, Write: true, Cow: true},
}

// mayBe is the document's rule, read word by word.
func mayBe(e api.Entry) bool {
	frame := e.Frame >= 0 && e.Frame <= 1023
	absent := e.Present || !e.Write && !e.Cow && e.Frame == 0
	cow := !e.Cow || !e.Write
	return frame && absent && cow
}

// wordOf is the document's layout, by sums.
func wordOf(e api.Entry) api.Word {
	w := 256 * api.Word(e.Frame)
	if e.Present {
		w++
	}
	if e.Write {
		w += 2
	}
	if e.Cow {
		w += 4
	}
	return w
}

// frames are numbers of frames, those that there may be and others near and far.
func frames() []int {
	l := []int{math.MinInt, math.MinInt + 5, -1 << 31, -1024, -2, -1}
	for f := 0; f < 1024; f++ {
		l = append(l, f)
	}
	return append(l, 1024, 1025, 2047, 2048, 1<<18, 1<<24, math.MaxInt32, math.MaxInt-1, math.MaxInt)
}

// entries are all entries that may be, and many that may not.
func entries() []api.Entry {
	var l []api.Entry
	for _, e := range flags {
		for _, f := range frames() {
			e.Frame = f
			l = append(l, e)
		}
	}
	return l
}

// words are all words below 2^20, and each of some with higher bits set.
func words(do func(w api.Word)) {
	for w := api.Word(0); w < 1<<20; w++ {
		do(w)
	}
	for bit := 20; bit < 32; bit++ {
		for _, low := range []api.Word{0, 1, 3, 5, 0x503, 0x3ff01, 0x3ff05} {
			do(1<<bit | low)
		}
	}
	do(math.MaxUint32)
	do(math.MaxUint32 - 2)
}

func TestCheck(t *testing.T) { // P1.1
	for _, e := range entries() {
		want := api.ErrArg
		if mayBe(e) {
			want = api.OK
		}
		if got := word.Check(e); got != want {
			t.Fatalf("Check(%+v): %d, want %d", e, got, want)
		}
	}
}

func TestPut(t *testing.T) { // P1.1
	for _, e := range entries() {
		var want api.Word
		wantErr := api.ErrArg
		if mayBe(e) {
			want, wantErr = wordOf(e), api.OK
		}
		if w, err := word.Put(e); w != want || err != wantErr {
			t.Fatalf("Put(%+v): %#x %d, want %#x %d", e, w, err, want, wantErr)
		}
	}
}

func TestGet(t *testing.T) { // P1.1
	all := map[api.Word]api.Entry{}
	for _, e := range entries() {
		if mayBe(e) {
			all[wordOf(e)] = e
		}
	}
	words(func(w api.Word) {
		want, there := all[w]
		wantErr := api.ErrForm
		if there {
			wantErr = api.OK
		}
		if e, err := word.Get(w); e != want || err != wantErr {
			t.Fatalf("Get(%#x): %+v %d, want %+v %d", w, e, err, want, wantErr)
		}
	})
}

func TestEntriesByHand(t *testing.T) { // P1.1
	for _, x := range []struct {
		e api.Entry
		w api.Word
	}{
		{api.Entry{}, 0},
		{api.Entry{Present: true}, 1},
		{api.Entry{Present: true, Write: true}, 3},
		{api.Entry{Present: true, Cow: true}, 5},
		{api.Entry{Present: true, Write: true, Frame: 5}, 0x503},
		{api.Entry{Present: true, Frame: 1023}, 0x3ff01},
		{api.Entry{Present: true, Cow: true, Frame: 1023}, 0x3ff05},
	} {
		if w, err := word.Put(x.e); w != x.w || err != api.OK {
			t.Errorf("Put(%+v): %#x %d, want %#x", x.e, w, err, x.w)
		}
		if e, err := word.Get(x.w); e != x.e || err != api.OK {
			t.Errorf("Get(%#x): %+v %d, want %+v", x.w, e, err, x.e)
		}
	}
	// Alone each of these is all that is wrong with the word.
	for _, w := range []api.Word{2, 4, 6, 7, 0x100, 0x3ff00, 9, 0x11, 0x21, 0x41, 0x81, 0x40001, 0x80000001} {
		if e, err := word.Get(w); e != (api.Entry{}) || err != api.ErrForm {
			t.Errorf("Get(%#x): %+v %d, want ErrForm", w, e, err)
		}
	}
}

func TestCutAndPage(t *testing.T) { // P1.2
	for va := 0; va < 1<<15; va++ {
		root, table, place, err := word.Cut(api.Word(va))
		if root != va/1024 || table != va/32%32 || place != va%32 || err != api.OK {
			t.Fatalf("Cut(%#x): %d %d %d %d", va, root, table, place, err)
		}
		if page, err := word.Page(api.Word(va)); page != va/32 || err != api.OK {
			t.Fatalf("Page(%#x): %d %d", va, page, err)
		}
	}
}

func TestNoAddress(t *testing.T) { // P1.2
	no := []api.Word{1<<15 + 1, 1<<15 + 1<<14, math.MaxUint32, math.MaxUint32 - 1<<15}
	for bit := 15; bit < 32; bit++ {
		no = append(no, 1<<bit, 1<<bit|0x443)
	}
	for _, va := range no {
		if root, table, place, err := word.Cut(va); root != 0 || table != 0 || place != 0 || err != api.ErrFault {
			t.Errorf("Cut(%#x): %d %d %d %d, want ErrFault", va, root, table, place, err)
		}
		if page, err := word.Page(va); page != 0 || err != api.ErrFault {
			t.Errorf("Page(%#x): %d %d, want ErrFault", va, page, err)
		}
	}
}

func TestAddress(t *testing.T) { // P1.3
	for page := range 1024 {
		for place := range 32 {
			want := api.Word(32*page + place)
			if va, err := word.Address(page, place); va != want || err != api.OK {
				t.Fatalf("Address(%d, %d): %#x %d, want %#x", page, place, va, err, want)
			}
		}
	}
}

func TestAddressThatMayNotBe(t *testing.T) { // P1.3
	wrong := []int{math.MinInt, math.MinInt32, -1024, -32, -1, 1024, 1025, 1 << 15, 1 << 20, math.MaxInt32, math.MaxInt}
	refuse := func(page, place int) {
		if va, err := word.Address(page, place); va != 0 || err != api.ErrArg {
			t.Errorf("Address(%d, %d): %#x %d, want ErrArg", page, place, va, err)
		}
	}
	for _, n := range wrong {
		refuse(n, 0)
		refuse(n, 31)
		refuse(0, n)
		refuse(1023, n)
		refuse(n, n)
	}
	refuse(0, 32)
	refuse(1023, 32)
	refuse(1, 33)
}

func TestEntriesComeBack(t *testing.T) { // P1.4
	seen := map[api.Word]api.Entry{}
	for _, e := range entries() {
		w, err := word.Put(e)
		if err != api.OK {
			continue
		}
		if other, there := seen[w]; there {
			t.Fatalf("%+v and %+v have both the word %#x", e, other, w)
		}
		seen[w] = e
		if back, err := word.Get(w); back != e || err != api.OK {
			t.Fatalf("Get of Put(%+v): %+v %d", e, back, err)
		}
	}
	// 1 that is not Present, and of each frame one that is Write, one that is Cow, one that is neither.
	if len(seen) != 1+3*1024 {
		t.Errorf("%d entries have words", len(seen))
	}
}

func TestWordsComeBack(t *testing.T) { // P1.4
	taken := 0
	words(func(w api.Word) {
		e, err := word.Get(w)
		if err != api.OK {
			return
		}
		taken++
		if back, err := word.Put(e); back != w || err != api.OK {
			t.Fatalf("Put of Get(%#x): %#x %d", w, back, err)
		}
	})
	if taken != 1+3*1024 {
		t.Errorf("Get takes %d words", taken)
	}
}

func TestAddressesComeBack(t *testing.T) { // P1.4
	for va := api.Word(0); va < 1<<15; va++ {
		root, table, place, err := word.Cut(va)
		if err != api.OK {
			t.Fatalf("Cut(%#x): %d", va, err)
		}
		if back, err := word.Address(32*root+table, place); back != va || err != api.OK {
			t.Fatalf("Address of the parts of %#x: %#x %d", va, back, err)
		}
		page, err := word.Page(va)
		if page != 32*root+table || err != api.OK {
			t.Fatalf("Page(%#x): %d %d, of the parts %d and %d", va, page, err, root, table)
		}
	}
}

func TestAddressesRise(t *testing.T) { // P1.4
	last := -1
	for page := range 1024 {
		for place := range 32 {
			va, err := word.Address(page, place)
			if err != api.OK || int(va) <= last {
				t.Fatalf("Address(%d, %d): %#x %d, behind %#x", page, place, va, err, last)
			}
			last = int(va)
		}
	}
}
