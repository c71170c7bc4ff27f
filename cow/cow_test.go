package cow_test

import (
	"math"
	"testing"

	"priory/api"
	"priory/cow"
	"priory/word"
)

// flags are all ways to set an entry's three bits.
var flags = []api.Entry{
	{},
	{Present: true},
	{Write: true},
	{Cow: true},
	{Present: true, Write: true},
	{Present: true, Cow: true},
	{Write: true, Cow: true},
	{Present: true, Write: true, Cow: true},
}

// offFrames are numbers of no frame.
var offFrames = []int{math.MinInt, math.MinInt + 5, -1 << 32, -1<<32 + 5, -1 << 31, -1024, -1023, -256, -2, -1, 1024, 1025, 1029, 2047, 2048, 1 << 16, 1 << 18, 1<<18 + 5, math.MaxInt32, 1 << 32, 1<<32 + 5, math.MaxInt - 1, math.MaxInt}

// offRefs are below 1, among them such of which the lower bits alone are 1 or more.
var offRefs = []int{math.MinInt, math.MinInt + 1, math.MinInt + 2, -1 << 32, -1<<32 + 1, -1 << 31, -1<<31 + 1, -65536, -256, -255, -64, -3, -2, -1, 0}

// allRefs are how often a frame is held: more than MaxRefs, too, and numbers of which the lower bits alone are 1 or 0.
func allRefs() []int {
	var l []int
	for n := 1; n <= 70; n++ {
		l = append(l, n)
	}
	return append(l, 127, 128, 255, 256, 257, 1024, 1025, 65535, 65536, 65537, math.MaxInt32, 1<<31, 1<<31+1, 1<<32-1, 1<<32, 1<<32+1, 1<<33+1, math.MaxInt-1, math.MaxInt)
}

// frames are all numbers of frames, and those of no frame.
func frames() []int {
	l := append([]int(nil), offFrames...)
	for f := range 1024 {
		l = append(l, f)
	}
	return l
}

// entries are all entries that may be, and many that may not.
func entries() []api.Entry {
	var l []api.Entry
	for _, e := range flags {
		for _, f := range frames() {
			e.Frame = f
			l = append(l, e)
		}
	}
	return l
}

// isEntry is the document's rule, read word by word: an entry that may be, Present.
func isEntry(e api.Entry) bool {
	return e.Frame >= 0 && e.Frame <= 1023 && e.Present && !(e.Cow && e.Write)
}

// forked: P15.1.
func forked(e api.Entry) (api.Entry, api.Errno) {
	if !isEntry(e) {
		return api.Entry{}, api.ErrArg
	}
	if e.Write {
		e.Write, e.Cow = false, true
	}
	return e, api.OK
}

// written: P15.2, its answers by their numbers.
func written(e api.Entry, refs int) (int, api.Errno) {
	if !isEntry(e) || refs < 1 {
		return 0, api.ErrArg
	}
	if !e.Write && !e.Cow {
		return 0, api.ErrPerm
	}
	if e.Write {
		return 1, api.OK
	}
	if refs == 1 {
		return 2, api.OK
	}
	return 3, api.OK
}

// protected: P15.3.
func protected(e api.Entry, refs int, write bool) (api.Entry, api.Errno) {
	if !isEntry(e) || refs < 1 {
		return api.Entry{}, api.ErrArg
	}
	e.Write = write && refs == 1
	e.Cow = write && refs != 1
	return e, api.OK
}

// forks holds Fork against the model.
func forks(t *testing.T, e api.Entry) {
	t.Helper()
	want, wantErr := forked(e)
	if got, err := cow.Fork(e); got != want || err != wantErr {
		t.Fatalf("Fork(%+v): %+v %d, want %+v %d", e, got, err, want, wantErr)
	}
}

// writes holds Write against the model.
func writes(t *testing.T, e api.Entry, refs int) {
	t.Helper()
	want, wantErr := written(e, refs)
	if got, err := cow.Write(e, refs); got != want || err != wantErr {
		t.Fatalf("Write(%+v, %d): %d %d, want %d %d", e, refs, got, err, want, wantErr)
	}
}

// sets holds Set against the model.
func sets(t *testing.T, e api.Entry, refs int, write bool) {
	t.Helper()
	want, wantErr := protected(e, refs, write)
	if got, err := cow.Set(e, refs, write); got != want || err != wantErr {
		t.Fatalf("Set(%+v, %d, %v): %+v %d, want %+v %d", e, refs, write, got, err, want, wantErr)
	}
}

// P15.1: all entries, and such as are none.
func TestFork(t *testing.T) {
	for _, e := range entries() {
		forks(t, e)
	}
}

// P15.2: all entries, however often their frames are held.
func TestWrite(t *testing.T) {
	refs := append(allRefs(), offRefs...)
	for _, e := range entries() {
		for _, n := range refs {
			writes(t, e, n)
		}
	}
}

// P15.3: all entries, however often their frames are held, to be written to and not.
func TestSet(t *testing.T) {
	refs := append(allRefs(), offRefs...)
	for _, e := range entries() {
		for _, n := range refs {
			sets(t, e, n, true)
			sets(t, e, n, false)
		}
	}
}

// P15.1, P15.2, P15.3: each of the three entries by hand, with frames at the edges.
func TestByHand(t *testing.T) {
	for _, f := range []int{0, 1, 5, 255, 256, 1023} {
		read := api.Entry{Present: true, Frame: f}
		write := api.Entry{Present: true, Write: true, Frame: f}
		shared := api.Entry{Present: true, Cow: true, Frame: f}
		for _, x := range []struct {
			e, fork       api.Entry
			alone, others int
			err           api.Errno
		}{
			{read, read, 0, 0, api.ErrPerm},
			{write, shared, api.ActGo, api.ActGo, api.OK},
			{shared, shared, api.ActOwn, api.ActCopy, api.OK},
		} {
			if got, err := cow.Fork(x.e); got != x.fork || err != api.OK {
				t.Errorf("Fork(%+v): %+v %d", x.e, got, err)
			}
			if got, err := cow.Write(x.e, 1); got != x.alone || err != x.err {
				t.Errorf("Write(%+v, 1): %d %d", x.e, got, err)
			}
			for _, refs := range []int{2, 3, 63, 64, 65, math.MaxInt} {
				if got, err := cow.Write(x.e, refs); got != x.others || err != x.err {
					t.Errorf("Write(%+v, %d): %d %d", x.e, refs, got, err)
				}
				if got, err := cow.Set(x.e, refs, true); got != shared || err != api.OK {
					t.Errorf("Set(%+v, %d, true): %+v %d", x.e, refs, got, err)
				}
				if got, err := cow.Set(x.e, refs, false); got != read || err != api.OK {
					t.Errorf("Set(%+v, %d, false): %+v %d", x.e, refs, got, err)
				}
			}
			if got, err := cow.Set(x.e, 1, true); got != write || err != api.OK {
				t.Errorf("Set(%+v, 1, true): %+v %d", x.e, got, err)
			}
			if got, err := cow.Set(x.e, 1, false); got != read || err != api.OK {
				t.Errorf("Set(%+v, 1, false): %+v %d", x.e, got, err)
			}
		}
	}
}

// P15.1, P15.2, P15.3: what is no entry of a page, each wrong by one thing alone.
func TestNoEntry(t *testing.T) {
	for _, e := range []api.Entry{
		{},
		{Frame: 5},
		{Write: true},
		{Cow: true},
		{Write: true, Frame: 5},
		{Cow: true, Frame: 5},
		{Present: true, Write: true, Cow: true},
		{Present: true, Write: true, Cow: true, Frame: 5},
		{Present: true, Frame: -1},
		{Present: true, Frame: 1024},
		{Present: true, Write: true, Frame: -1},
		{Present: true, Write: true, Frame: 1024},
		{Present: true, Cow: true, Frame: -1},
		{Present: true, Cow: true, Frame: 1024},
	} {
		if got, err := cow.Fork(e); got != (api.Entry{}) || err != api.ErrArg {
			t.Errorf("Fork(%+v): %+v %d", e, got, err)
		}
		for _, refs := range []int{-1, 0, 1, 2} {
			if got, err := cow.Write(e, refs); got != 0 || err != api.ErrArg {
				t.Errorf("Write(%+v, %d): %d %d", e, refs, got, err)
			}
			for _, write := range []bool{false, true} {
				if got, err := cow.Set(e, refs, write); got != (api.Entry{}) || err != api.ErrArg {
					t.Errorf("Set(%+v, %d, %v): %+v %d", e, refs, write, got, err)
				}
			}
		}
	}
}

// P15.2, P15.3: of refs below 1 ErrArg is told, whatever the entry, ahead of ErrPerm too.
func TestNoRefs(t *testing.T) {
	for _, e := range flags {
		e.Frame = 5
		for _, refs := range offRefs {
			if got, err := cow.Write(e, refs); got != 0 || err != api.ErrArg {
				t.Errorf("Write(%+v, %d): %d %d", e, refs, got, err)
			}
			for _, write := range []bool{false, true} {
				if got, err := cow.Set(e, refs, write); got != (api.Entry{}) || err != api.ErrArg {
					t.Errorf("Set(%+v, %d, %v): %+v %d", e, refs, write, got, err)
				}
			}
		}
	}
}

// neverGoes sees to it that a write to an entry's page is copied ahead, or may not be, as long as others have the page, and that it never goes on as it is.
func neverGoes(t *testing.T, e api.Entry) {
	t.Helper()
	for _, refs := range allRefs() {
		act, err := cow.Write(e, refs)
		switch {
		case err == api.ErrPerm:
		case err == api.OK && act == api.ActCopy:
		case err == api.OK && act == api.ActOwn && refs == 1:
		default:
			t.Fatalf("Write(%+v, %d): %d %d", e, refs, act, err)
		}
	}
}

// P15.4: behind Fork, and behind Set with refs above 1, no write goes on without a copy; Fork twice is as once; the frame is the same.
func TestShared(t *testing.T) {
	for _, e := range entries() {
		if !isEntry(e) {
			continue
		}
		once, err := cow.Fork(e)
		twice, again := cow.Fork(once)
		if err != api.OK || again != api.OK || twice != once || once.Frame != e.Frame {
			t.Fatalf("Fork of %+v: %+v, then %+v", e, once, twice)
		}
		neverGoes(t, once)
		for _, refs := range allRefs() {
			for _, write := range []bool{false, true} {
				got, err := cow.Set(e, refs, write)
				if err != api.OK || got.Frame != e.Frame || word.Check(got) != api.OK {
					t.Fatalf("Set(%+v, %d, %v): %+v %d", e, refs, write, got, err)
				}
				if act, err := cow.Write(got, refs); (err == api.OK) != write || refs > 1 && act == api.ActGo {
					t.Fatalf("Write behind Set(%+v, %d, %v): %d %d", e, refs, write, act, err)
				}
				if refs == 2 {
					neverGoes(t, got)
				}
			}
		}
	}
}

// side is who has the page: its entry (zero: it has none), and the word that it is to find there.
type side struct {
	e    api.Entry
	want int
}

// sharing is a page of some sides, and frames with a word each, and how often they are held. Frame 0 is never handed out, so that a zero entry's frame is nobody's.
type sharing struct {
	sides []side
	words [16]int
	refs  [16]int
	next  int
}

// begin is a page that the first of so many sides has alone.
func begin(sides int) *sharing {
	s := &sharing{sides: make([]side, sides)}
	s.sides[0].e = api.Entry{Present: true, Write: true, Frame: s.take()}
	return s
}

// take hands out a frame that nobody holds.
func (s *sharing) take() int {
	for f := 1; ; f++ {
		if s.refs[f] == 0 {
			s.refs[f], s.words[f] = 1, 0
			return f
		}
	}
}

// fork gives the page of one side to another one that has none.
func (s *sharing) fork(t *testing.T, from, to int) {
	e, err := cow.Fork(s.sides[from].e)
	if err != api.OK {
		t.Fatal(err)
	}
	s.sides[from].e = e
	s.sides[to] = side{e, s.sides[from].want}
	s.refs[e.Frame]++
}

// store does what Write tells, and then the write.
func (s *sharing) store(t *testing.T, i int) {
	e := s.sides[i].e
	act, err := cow.Write(e, s.refs[e.Frame])
	switch {
	case err == api.ErrPerm:
		return
	case err != api.OK:
		t.Fatal(err)
	case act == api.ActOwn:
		if e, err = cow.Set(e, 1, true); err != api.OK {
			t.Fatal(err)
		}
	case act == api.ActCopy:
		old := e.Frame
		e = api.Entry{Present: true, Write: true, Frame: s.take()}
		s.words[e.Frame] = s.words[old]
		s.refs[old]--
	}
	s.next++
	s.words[e.Frame] = s.next
	s.sides[i] = side{e, s.next}
}

// protect sets whether a side may write.
func (s *sharing) protect(t *testing.T, i int, write bool) {
	e := s.sides[i].e
	e, err := cow.Set(e, s.refs[e.Frame], write)
	if err != api.OK {
		t.Fatal(err)
	}
	s.sides[i].e = e
}

// step does the one of the steps that has this number, if it may be done: to each side a store, two ways to protect, an end, and a fork to each side.
func (s *sharing) step(t *testing.T, n int) {
	kinds := 4 + len(s.sides)
	i, kind := n/kinds, n%kinds
	switch {
	case s.sides[i].e == api.Entry{}:
	case kind == 0:
		s.store(t, i)
	case kind == 1:
		s.protect(t, i, false)
	case kind == 2:
		s.protect(t, i, true)
	case kind == 3:
		s.refs[s.sides[i].e.Frame]--
		s.sides[i] = side{}
	case s.sides[kind-4].e == api.Entry{}:
		s.fork(t, i, kind-4)
	}
}

// each sees to it that every side finds what it wrote last, or was given.
func (s *sharing) each(t *testing.T, steps []int) {
	t.Helper()
	for i, x := range s.sides {
		if x.e == (api.Entry{}) {
			continue
		}
		if s.words[x.e.Frame] != x.want {
			t.Fatalf("%v: side %d finds %d, not %d: %+v", steps, i, s.words[x.e.Frame], x.want, s)
		}
		if x.e.Write && s.refs[x.e.Frame] != 1 {
			t.Fatalf("%v: side %d may write to what others have: %+v", steps, i, s)
		}
	}
}

// P15.4: all rows of five steps of two sides: what one writes no other one finds.
func TestEachOnesOwn(t *testing.T) {
	const kinds, many = 12, 5
	rows := 1
	for range many {
		rows *= kinds
	}
	for row := range rows {
		s := begin(2)
		var steps []int
		for n := row; len(steps) < many; n /= kinds {
			steps = append(steps, n%kinds)
			s.step(t, n%kinds)
			s.each(t, steps)
		}
	}
}

// P15.4: long rows of steps of up to six sides.
func TestSteps(t *testing.T) {
	r := uint32(15)
	for sides := 2; sides <= 6; sides++ {
		for range 100 {
			s := begin(sides)
			var steps []int
			for range 150 {
				r = r*1664525 + 1013904223
				steps = append(steps, int(r>>8)%(sides*(4+sides)))
				s.step(t, steps[len(steps)-1])
				s.each(t, steps)
			}
		}
	}
}

// The chapter's examples.
func TestChapter(t *testing.T) {
	that, err := cow.Fork(api.Entry{Present: true, Write: true, Frame: 5})
	if that != (api.Entry{Present: true, Cow: true, Frame: 5}) || err != api.OK {
		t.Errorf("Fork: %+v %d", that, err)
	}
	if act, err := cow.Write(that, 2); act != 3 || err != api.OK {
		t.Errorf("Write: %d %d", act, err)
	}
	if act, err := cow.Write(that, 1); act != 2 || err != api.OK {
		t.Errorf("Write: %d %d", act, err)
	}
	if e, err := cow.Set(that, 1, true); e != (api.Entry{Present: true, Write: true, Frame: 5}) || err != api.OK {
		t.Errorf("Set: %+v %d", e, err)
	}
	if act, err := cow.Write(api.Entry{Present: true, Frame: 5}, 1); act != 0 || err != api.ErrPerm {
		t.Errorf("Write: %d %d", act, err)
	}
}
