package copy_test

import (
	"math"
	"slices"
	"testing"

	"priory/api"
	"priory/budget"
	"priory/copy"
	"priory/mem"
	"priory/palloc"
	"priory/space"
)

// offPids are numbers that no process has, among them such of which the lower bits alone are one's.
var offPids = []int{math.MinInt, -1 << 32, -1<<32 + 1, -255, -1, 0, 9, 10, 257, 65537, math.MaxInt32, 1 << 32, 1<<32 + 1, math.MaxInt}

// offMany are numbers of words that may not be, among them such of which the lower bits alone may.
var offMany = []int{math.MinInt, math.MinInt + 1, -1 << 32, -1<<32 + 1, -65535, -1024, -1, 0, 1025, 1026, 2048, 32768, 65537, 1 << 31, 1 << 32, 1<<32 + 1, math.MaxInt - 1, math.MaxInt}

// offLists are lengths of lists that may not be put.
var offLists = []int{0, 1025, 1026, 2048, 32768, 65537}

// offWords are addresses that are none.
var offWords = []api.Word{0x8000, 0x8001, 0x8021, 0xffff, 0x10000, 0x10021, 0x80000000, 0x80000021, 0xfffffc00, 0xffffffe0, 0xffffffff}

// random is a row of numbers that is always the same.
type random uint32

// below tells the next number, which is below n.
func (r *random) below(n int) int {
	*r = *r*1664525 + 1013904223
	return int(*r>>8) % n
}

// pick tells one of a list.
func pick[T any](r *random, l []T) T { return l[r.below(len(l))] }

// held is a frame of pages: how many have it.
type held struct{ refs int }

// page is one that is mapped: its words, and the frame that it should have.
type page struct {
	words [32]api.Word
	in    *held
}

// model is a space as it should be: of each page 'w', if it may be written to, 'r', if it may be read alone, 0, if it is in no area.
type model struct {
	kinds [1024]byte
	pages map[int]*page
}

// cost tells what a space is charged, that has these pages, too.
func (s *model) cost(more ...int) int {
	pages, tables := map[int]int{}, map[int]int{}
	for n := range s.pages {
		pages[n], tables[n/32] = 1, 1
	}
	for _, n := range more {
		pages[n], tables[n/32] = 1, 1
	}
	return 1 + len(pages) + len(tables)
}

// touch makes a page be there, and, to write, nobody else's.
func (s *model) touch(n int, write bool) {
	p := s.pages[n]
	if p == nil {
		p = &page{in: &held{refs: 1}}
		s.pages[n] = p
	}
	if write && p.in.refs > 1 {
		p.in.refs--
		p.in = &held{refs: 1}
	}
}

// at is a word that was touched.
func (s *model) at(va api.Word, i int) *api.Word {
	n := int(va) + i
	return &s.pages[n/32].words[n%32]
}

// rig is spaces, what they work over, and what should be there.
type rig struct {
	t     *testing.T
	m     *mem.Mem
	p     *palloc.Pool
	b     *budget.Budget
	s     *space.Spaces
	want  map[int]*model
	frees int
}

// strange is the word that stands at a place at first.
func strange(frame, place int) api.Word { return 0x80000000 | api.Word(32*frame+place) }

// rigged is spaces of the middle one of three partitions, which has as many frames, from 10 on, as the budget's quota. 1 has a space.
func rigged(t *testing.T, quota int) *rig {
	t.Helper()
	m, _ := mem.New(quota + 20)
	for f := range quota + 20 {
		for place := range 32 {
			m.Write(f, place, strange(f, place))
		}
	}
	p, _ := palloc.New(m, []api.Range{{From: 0, Many: 10}, {From: 10, Many: quota}, {From: 10 + quota, Many: 10}})
	b, _ := budget.New(quota)
	s, err := space.New(m, p, 1, b)
	if err != api.OK {
		t.Fatalf("space.New: %d", err)
	}
	r := &rig{t: t, m: m, p: p, b: b, s: s, want: map[int]*model{}, frees: p.Left(1)}
	r.open(1)
	return r
}

// done ends the test, if that was refused which should not be.
func (r *rig) done(err api.Errno, call string) {
	r.t.Helper()
	if err != api.OK {
		r.t.Fatalf("%s: %d", call, err)
	}
}

// carve opens a container that is carved from the first one.
func (r *rig) carve(id, quota int) {
	r.t.Helper()
	r.done(r.b.Open(id, 1, quota), "the budget's Open")
}

// leave leaves so much of a container, by means of another one that is carved from it, 8.
func (r *rig) leave(pid, left int) {
	r.t.Helper()
	r.done(r.b.Open(8, pid, r.b.Left(pid)-left), "the budget's Open")
}

// back is leave's end.
func (r *rig) back() {
	r.t.Helper()
	r.done(r.b.Close(8), "the budget's Close")
}

// open, close, fork, grow, shrink and protect do what layer 16 promises, of which the model follows what it answers.
func (r *rig) open(pid int) api.Errno {
	err := r.s.Open(pid)
	if err == api.OK {
		r.want[pid] = &model{pages: map[int]*page{}}
	}
	return err
}

func (r *rig) close(pid int) api.Errno {
	err := r.s.Close(pid)
	if err == api.OK {
		for _, p := range r.want[pid].pages {
			p.in.refs--
		}
		delete(r.want, pid)
	}
	return err
}

func (r *rig) fork(from, to int) api.Errno {
	err := r.s.Fork(from, to)
	if err == api.OK {
		child := &model{kinds: r.want[from].kinds, pages: map[int]*page{}}
		for n, p := range r.want[from].pages {
			p.in.refs++
			child.pages[n] = &page{words: p.words, in: p.in}
		}
		r.want[to] = child
	}
	return err
}

func (r *rig) grow(pid, from, many int, write bool) api.Errno {
	err := r.s.Grow(pid, api.Area{From: from, Many: many, Write: write})
	return r.become(err, pid, from, many, write)
}

func (r *rig) protect(pid, from, many int, write bool) api.Errno {
	return r.become(r.s.Protect(pid, from, many, write), pid, from, many, write)
}

// become makes pages be in an area, if there was no error.
func (r *rig) become(err api.Errno, pid, from, many int, write bool) api.Errno {
	for n := from; n < from+many && err == api.OK; n++ {
		r.want[pid].kinds[n] = 'r'
		if write {
			r.want[pid].kinds[n] = 'w'
		}
	}
	return err
}

func (r *rig) shrink(pid, from, many int) api.Errno {
	err := r.s.Shrink(pid, from, many)
	for n := from; n < from+many && err == api.OK; n++ {
		r.want[pid].kinds[n] = 0
		if p := r.want[pid].pages[n]; p != nil {
			p.in.refs--
			delete(r.want[pid].pages, n)
		}
	}
	return err
}

// reached tells the error of words that are reached, each asked in turn; with none they are.
func (r *rig) reached(pid int, va api.Word, words int, write bool) api.Errno {
	switch {
	case pid < 1 || pid > 8 || words < 1 || words > 1024:
		return api.ErrArg
	case r.want[pid] == nil:
		return api.ErrNone
	}
	s := r.want[pid]
	var pages []int
	for i := range uint64(words) {
		at := uint64(va) + i
		switch {
		case at >= 32768 || s.kinds[at/32] == 0:
			return api.ErrFault
		case write && s.kinds[at/32] != 'w':
			return api.ErrPerm
		}
		pages = append(pages, int(at/32))
	}
	if r.b.Left(pid) < s.cost(pages...)-s.cost() {
		return api.ErrFull
	}
	for _, n := range pages {
		s.touch(n, write)
	}
	return api.OK
}

// in asks In, and holds the answer against what should be said.
func (r *rig) in(pid int, va api.Word, words int) api.Errno {
	r.t.Helper()
	want := r.reached(pid, va, words, false)
	var row []api.Word
	for i := 0; i < words && want == api.OK; i++ {
		row = append(row, *r.want[pid].at(va, i))
	}
	l, err := copy.In(r.s, pid, va, words)
	if err != want || !slices.Equal(l, row) {
		r.t.Fatalf("In(%d, %d, %d): %v %d, want %v %d", pid, va, words, l, err, row, want)
	}
	return err
}

// out and fill ask likewise.
func (r *rig) out(pid int, va api.Word, l []api.Word) api.Errno {
	r.t.Helper()
	want := r.reached(pid, va, len(l), true)
	for i := 0; i < len(l) && want == api.OK; i++ {
		*r.want[pid].at(va, i) = l[i]
	}
	err := copy.Out(r.s, pid, va, l)
	if err != want {
		r.t.Fatalf("Out(%d, %d) of %d words: %d, want %d", pid, va, len(l), err, want)
	}
	return err
}

func (r *rig) fill(pid int, va api.Word, words int, w api.Word) api.Errno {
	r.t.Helper()
	want := r.reached(pid, va, words, true)
	for i := 0; i < words && want == api.OK; i++ {
		*r.want[pid].at(va, i) = w
	}
	err := copy.Fill(r.s, pid, va, words, w)
	if err != want {
		r.t.Fatalf("Fill(%d, %d, %d, %d): %d, want %d", pid, va, words, w, err, want)
	}
	return err
}

// all asks all three of so many words, if there can be a list of them.
func (r *rig) all(pid int, va api.Word, words int) {
	r.t.Helper()
	r.in(pid, va, words)
	r.fill(pid, va, words, 0xfeed)
	if words >= 0 && words <= 65537 {
		r.out(pid, va, row(words, 7))
	}
}

// row is so many words, no two of which are the same.
func row(words, seed int) []api.Word {
	l := make([]api.Word, words)
	for i := range l {
		l[i] = api.Word(seed*100000 + i + 1)
	}
	return l
}

// same holds all spaces, what they are charged, which frames are held and what others have against what should be there.
func (r *rig) same() {
	r.t.Helper()
	frames, tables := map[*held]int{}, 0
	for pid, s := range r.want {
		r.told(pid, s)
		tables += s.cost() - len(s.pages)
		for _, p := range s.pages {
			frames[p.in]++
		}
	}
	for _, n := range r.b.All() {
		want := 0
		if s := r.want[n.Id]; s != nil {
			want = s.cost()
		}
		if n.Used != want {
			r.t.Fatalf("Used of the container %d: %d, want %d", n.Id, n.Used, want)
		}
	}
	if got := r.frees - r.p.Left(1); got != tables+len(frames) {
		r.t.Fatalf("%d frames are held, want %d for tables and %d for pages", got, tables, len(frames))
	}
	r.others()
}

// told holds what is told of a space against its model.
func (r *rig) told(pid int, s *model) {
	r.t.Helper()
	var mapped []int
	for n := range s.kinds {
		if s.pages[n] != nil {
			mapped = append(mapped, n)
		}
	}
	if l := r.s.Mapped(pid); !slices.Equal(l, mapped) {
		r.t.Fatalf("Mapped(%d): %v, want %v", pid, l, mapped)
	}
	for n, p := range s.pages {
		for place, want := range p.words {
			if w, err := r.s.Load(pid, api.Word(32*n+place)); w != want || err != api.OK {
				r.t.Fatalf("Load(%d, %d), the page %d: %#x %d, want %#x", pid, 32*n+place, n, w, err, want)
			}
		}
	}
}

// others holds against it that nobody else's frames were taken, or written to.
func (r *rig) others() {
	r.t.Helper()
	for f := range r.m.Frames() {
		if owner, err := r.p.Owner(f); err == api.OK && owner == 1 {
			continue
		}
		l, _ := r.m.Page(f)
		for place, w := range l {
			if w != strange(f, place) || r.p.Refs(f) != 0 {
				r.t.Fatalf("the word %d of the frame %d of another one: %#x, held %d times", place, f, w, r.p.Refs(f))
			}
		}
	}
}

// ten is spaces of the processes 1 and 2: 1 has the pages 0 to 3 (to be written to), 30 to 33 (to be read), 34 and 1020 to 1023 (to be written to); 2 has none, 3 a container alone.
func ten(t *testing.T) *rig {
	t.Helper()
	r := rigged(t, 90)
	r.carve(2, 25)
	r.carve(3, 25)
	r.done(r.open(2), "Open")
	r.done(r.grow(1, 0, 4, true), "Grow")
	r.done(r.grow(1, 30, 4, false), "Grow")
	r.done(r.grow(1, 34, 1, true), "Grow")
	r.done(r.grow(1, 1020, 4, true), "Grow")
	r.same()
	return r
}

func TestExamples(t *testing.T) {
	m, _ := mem.New(10)
	p, _ := palloc.New(m, []api.Range{{From: 0, Many: 10}})
	b, _ := budget.New(10)
	s, _ := space.New(m, p, 0, b)
	s.Open(1)
	s.Grow(1, api.Area{From: 0, Many: 2, Write: true})
	if err := copy.Out(s, 1, 30, []api.Word{1, 2, 3, 4}); err != api.OK {
		t.Errorf("Out over the end of a page: %d", err)
	}
	l, err := copy.In(s, 1, 29, 6)
	if want := []api.Word{0, 1, 2, 3, 4, 0}; !slices.Equal(l, want) || err != api.OK {
		t.Errorf("In: %v %d, want %v", l, err, want)
	}
	if err := copy.Out(s, 1, 62, []api.Word{5, 6, 7}); err != api.ErrFault {
		t.Errorf("Out over the end of an area: %d, want ErrFault", err)
	}
	if l, err := copy.In(s, 1, 62, 2); !slices.Equal(l, []api.Word{0, 0}) || err != api.OK {
		t.Errorf("In behind that: %v %d, want 0 0", l, err)
	}
	if err := copy.Fill(s, 1, 31, 2, 9); err != api.OK {
		t.Errorf("Fill: %d", err)
	}
	if l, err := copy.In(s, 1, 30, 4); !slices.Equal(l, []api.Word{1, 9, 9, 4}) || err != api.OK {
		t.Errorf("In behind Fill: %v %d, want 1 9 9 4", l, err)
	}
}

func TestOfNothing(t *testing.T) { // ErrNil goes ahead of all, in P17.1 and P17.2
	m, _ := mem.New(10)
	p, _ := palloc.New(m, []api.Range{{From: 0, Many: 10}})
	b, _ := budget.New(3)
	refused, _ := space.New(m, p, 1, b)
	for _, s := range []*space.Spaces{nil, {}, refused} {
		for _, pid := range append([]int{1, 2, 8}, offPids...) {
			for _, va := range append([]api.Word{0, 31, 0x7fff}, offWords...) {
				for _, words := range append([]int{1, 2, 1024}, offMany...) {
					if l, err := copy.In(s, pid, va, words); len(l) != 0 || err != api.ErrNil {
						t.Fatalf("In of no spaces, %d, %d, %d: %v %d, want ErrNil", pid, va, words, l, err)
					}
					if err := copy.Fill(s, pid, va, words, 7); err != api.ErrNil {
						t.Fatalf("Fill of no spaces, %d, %d, %d: %d, want ErrNil", pid, va, words, err)
					}
				}
				for _, l := range [][]api.Word{nil, {}, {1}, row(1024, 1), row(1025, 1)} {
					if err := copy.Out(s, pid, va, l); err != api.ErrNil {
						t.Fatalf("Out of no spaces, %d, %d, %d words: %d, want ErrNil", pid, va, len(l), err)
					}
				}
			}
		}
	}
}

func TestProcessesThatThereAreNot(t *testing.T) { // P17.1, P17.2: ErrArg goes ahead of ErrFault
	r := ten(t)
	for _, pid := range offPids {
		for _, va := range append([]api.Word{0, 31, 960, 0x7fff}, offWords...) {
			for _, words := range append([]int{1, 2, 1024}, offMany...) {
				r.all(pid, va, words)
			}
			if err := copy.Out(r.s, pid, va, []api.Word{1}); err != api.ErrArg {
				t.Fatalf("Out(%d, %d): %d, want ErrArg", pid, va, err)
			}
		}
	}
	r.same()
}

func TestHowManyWords(t *testing.T) { // P17.1, P17.2: ErrArg goes ahead of ErrNone, ErrFault, ErrPerm and ErrFull
	r := ten(t)
	for _, left := range []int{0, 10} {
		r.leave(1, left)
		// 2 has no areas, 3 no space.
		for pid := 1; pid <= 8; pid++ {
			for _, va := range append([]api.Word{0, 31, 200, 960, 32 * 1020, 0x7fff}, offWords...) {
				for _, words := range offMany {
					r.all(pid, va, words)
					l, err := copy.In(r.s, pid, va, words)
					if len(l) != 0 || err != api.ErrArg {
						t.Fatalf("In(%d, %d, %d): %v %d, want ErrArg", pid, va, words, l, err)
					}
					if err := copy.Fill(r.s, pid, va, words, 1); err != api.ErrArg {
						t.Fatalf("Fill(%d, %d, %d): %d, want ErrArg", pid, va, words, err)
					}
				}
				for _, words := range offLists {
					if err := r.out(pid, va, row(words, 3)); err != api.ErrArg {
						t.Fatalf("Out(%d, %d) of %d words: %d, want ErrArg", pid, va, words, err)
					}
				}
				if err := r.out(pid, va, nil); err != api.ErrArg {
					t.Fatalf("Out(%d, %d) of nil: %d, want ErrArg", pid, va, err)
				}
			}
		}
		r.back()
	}
	r.same()
}

func TestSpacesThatThereAreNot(t *testing.T) { // P17.1, P17.2: ErrNone goes ahead of ErrFault
	r := ten(t)
	for pid := 3; pid <= 8; pid++ {
		for _, va := range append([]api.Word{0, 31, 960, 0x7fff}, offWords...) {
			for _, words := range []int{1, 2, 33, 1023, 1024} {
				r.all(pid, va, words)
				if l, err := copy.In(r.s, pid, va, words); len(l) != 0 || err != api.ErrNone {
					t.Fatalf("In(%d, %d, %d): %v %d, want ErrNone", pid, va, words, l, err)
				}
			}
		}
	}
	// One that was, and is there no more.
	r.done(r.out(1, 5, row(40, 1)), "Out")
	r.done(r.close(1), "Close")
	r.all(1, 5, 40)
	r.done(r.open(1), "Open")
	r.all(1, 5, 40)
	r.done(r.grow(1, 0, 2, true), "Grow")
	r.done(r.in(1, 0, 64), "In")
	r.same()
}

func TestFault(t *testing.T) { // P17.1, P17.2: words of which one is in no area are left, all of them
	r := ten(t)
	r.done(r.out(1, 0, row(128, 1)), "Out")
	// Over the end of an area, over its beginning, over the end of the pages, and what is no address.
	for _, from := range []int{0, 1, 31, 96, 126, 127, 128, 200, 32*30 - 2, 32*30 - 1, 32*35 - 1, 32 * 35, 32*1020 - 1, 32 * 1020, 0x7ffe, 0x7fff, 0x8000} {
		for _, words := range []int{1, 2, 3, 32, 33, 97, 127, 128, 129, 1024} {
			r.all(1, api.Word(from), words)
		}
		r.same()
	}
	for _, va := range offWords {
		for _, words := range []int{1, 2, 31, 32, 33, 1023, 1024} {
			if err := r.in(1, va, words); err != api.ErrFault {
				t.Fatalf("In(1, %#x, %d): %d, want ErrFault", va, words, err)
			}
			r.all(1, va, words)
		}
	}
	for _, words := range []int{1, 33, 1024} {
		r.all(2, 0, words)
	}
	r.same()
}

func TestAHoleAmongThem(t *testing.T) { // P17.1, P17.2: neither the words ahead of it nor those behind change
	for hole := range 5 {
		r := rigged(t, 20)
		r.done(r.grow(1, 0, 5, true), "Grow")
		r.done(r.out(1, 0, row(160, 1)), "Out")
		r.done(r.shrink(1, hole, 1), "Shrink")
		for from := range 5 {
			for many := 1; many <= 5-from; many++ {
				r.all(1, api.Word(32*from), 32*many)
				r.all(1, api.Word(32*from+31), 32*many-31)
			}
		}
		r.same()
		if err := copy.Fill(r.s, 1, 0, 160, 9); err != api.ErrFault {
			t.Errorf("Fill over a hole: %d, want ErrFault", err)
		}
		r.same()
	}
}

func TestPerm(t *testing.T) { // P17.1, P17.2: what may not be written to is taken, and not put
	r := ten(t)
	for _, l := range [][2]int{{32 * 30, 1}, {32*30 + 31, 2}, {32 * 33, 32}, {32*33 + 31, 1}, {32*33 + 31, 2}, {32*33 + 31, 33}, {32 * 30, 160}} {
		va, words := api.Word(l[0]), l[1]
		r.done(r.in(1, va, words), "In")
		if err := r.out(1, va, row(words, 2)); err != api.ErrPerm {
			t.Errorf("Out(1, %d) of %d words: %d, want ErrPerm", va, words, err)
		}
		if err := r.fill(1, va, words, 2); err != api.ErrPerm {
			t.Errorf("Fill(1, %d, %d): %d, want ErrPerm", va, words, err)
		}
		r.same()
	}
	// Words that were put stay where nothing may be put any more; those beside them, too.
	r.done(r.out(1, 0, row(128, 3)), "Out")
	r.done(r.protect(1, 1, 1, false), "Protect")
	for _, l := range [][2]int{{0, 33}, {0, 128}, {31, 2}, {32, 32}, {63, 1}, {63, 2}} {
		r.all(1, api.Word(l[0]), l[1])
		if err := copy.Fill(r.s, 1, api.Word(l[0]), l[1], 1); err != api.ErrPerm {
			t.Errorf("Fill(1, %d, %d): %d, want ErrPerm", l[0], l[1], err)
		}
	}
	r.same()
	r.all(1, 0, 32)
	r.all(1, 64, 64)
	r.done(r.protect(1, 1, 1, true), "Protect")
	r.all(1, 0, 128)
	r.same()
}

func TestFull(t *testing.T) { // P17.1, P17.2: with less than all need nothing is put, nor touched
	for _, there := range [][]int{{}, {29}, {32}, {30, 31}, {28, 40}, {0, 33}, {29, 30, 31, 32, 33, 34}} {
		for left := range 10 {
			for call := range 3 {
				r := rigged(t, 40)
				r.done(r.grow(1, 0, 100, true), "Grow")
				for _, n := range there {
					r.done(r.out(1, api.Word(32*n), row(32, n)), "Out")
				}
				r.leave(1, left)
				va, words := api.Word(32*29+30), 4*32+3
				var err api.Errno
				switch call {
				case 0:
					err = r.in(1, va, words)
				case 1:
					err = r.out(1, va, row(words, 200))
				default:
					err = r.fill(1, va, words, 0xbeef)
				}
				if len(there) == 0 && (err == api.OK) != (left >= 8) {
					t.Errorf("the call %d, where %d are left: %d", call, left, err)
				}
				r.same()
			}
		}
	}
}

func TestFullIsLast(t *testing.T) { // P17.1, P17.2: ErrFault and ErrPerm go ahead of it
	r := ten(t)
	r.leave(1, 0)
	for _, l := range [][2]int{{0, 1}, {0, 128}, {0, 129}, {127, 2}, {32 * 30, 1}, {32 * 30, 161}, {32*33 + 31, 2}, {0x7fff, 1}, {0x7fff, 2}, {0x8000, 1}} {
		r.all(1, api.Word(l[0]), l[1])
	}
	asks := []struct {
		from, words int
		read, write api.Errno
	}{
		{0, 128, api.ErrFull, api.ErrFull},
		{0, 129, api.ErrFault, api.ErrFault},
		{32 * 30, 128, api.ErrFull, api.ErrPerm},
		{32 * 34, 33, api.ErrFault, api.ErrFault},
		{0x7fff, 2, api.ErrFault, api.ErrFault},
	}
	for _, a := range asks {
		va := api.Word(a.from)
		if l, err := copy.In(r.s, 1, va, a.words); len(l) != 0 || err != a.read {
			t.Errorf("In(1, %d, %d): %v %d, want %d", va, a.words, l, err, a.read)
		}
		if err := copy.Out(r.s, 1, va, row(a.words, 1)); err != a.write {
			t.Errorf("Out(1, %d) of %d words: %d, want %d", va, a.words, err, a.write)
		}
		if err := copy.Fill(r.s, 1, va, a.words, 1); err != a.write {
			t.Errorf("Fill(1, %d, %d): %d, want %d", va, a.words, err, a.write)
		}
	}
	r.same()
	// What is mapped needs no more.
	r.back()
	r.done(r.in(1, 40, 1), "In")
	r.leave(1, 0)
	r.done(r.out(1, 32, row(32, 5)), "Out")
	r.all(1, 31, 2)
	r.same()
}

func TestInOrder(t *testing.T) { // P17.1, P17.2: Reach's errors, asked of one word behind the other
	r := rigged(t, 30)
	r.done(r.grow(1, 0, 1, true), "Grow")
	r.done(r.grow(1, 1, 1, false), "Grow")
	r.done(r.grow(1, 3, 1, false), "Grow")
	r.done(r.grow(1, 5, 1, true), "Grow")
	for _, left := range []int{0, 1, 2, 3, 9} {
		r.leave(1, left)
		for from := 0; from < 200; from += 8 {
			for words := 1; words < 200; words += 31 {
				r.all(1, api.Word(from), words)
				var reach [2]api.Errno
				for i, write := range []bool{false, true} {
					reach[i] = r.s.Reach(1, api.Word(from), words, write)
				}
				_, in := copy.In(r.s, 1, api.Word(from), words)
				if fill := copy.Fill(r.s, 1, api.Word(from), words, 0xfeed); in != reach[0] || fill != reach[1] {
					t.Fatalf("of %d from %d on: In %d, Fill %d, but Reach %d and %d", words, from, in, fill, reach[0], reach[1])
				}
				r.fill(1, api.Word(from), words, 0xfeed)
			}
		}
		r.same()
		r.back()
		r.done(r.shrink(1, 5, 1), "Shrink")
		r.done(r.grow(1, 5, 1, true), "Grow")
	}
}

func TestEveryNumberOfWords(t *testing.T) { // P17.1 to P17.3
	for _, from := range []int{32 * 100, 32*100 + 1, 32*100 + 31} {
		r := rigged(t, 60)
		r.done(r.grow(1, 100, 40, true), "Grow")
		for words := 1; words <= 1024; words++ {
			va := api.Word(from)
			r.done(r.out(1, va, row(words, words)), "Out")
			r.done(r.in(1, va, words), "In")
			r.done(r.in(1, va-api.Word(from%32), min(words+40, 1024)), "In")
			if words%100 == 24 {
				r.same()
				r.done(r.fill(1, va, words, api.Word(words)), "Fill")
				r.same()
			}
		}
	}
}

func TestEveryPlace(t *testing.T) { // P17.3: words anywhere in a page, over its end, over the end of a table
	for _, first := range []int{0, 30, 1021} {
		r := rigged(t, 20)
		r.done(r.grow(1, first, 3, true), "Grow")
		for from := range 96 {
			for _, words := range []int{1, 2, 31, 32, 33, 64, 65, 95, 96} {
				va := api.Word(32*first + from)
				r.all(1, va, words)
				r.out(1, va, row(words, from+1))
				r.in(1, va, words)
			}
			r.same()
		}
	}
}

func TestEndOfAll(t *testing.T) { // P17.1, P17.2: the last address, and no further; nothing goes round to 0
	r := rigged(t, 60)
	r.done(r.grow(1, 0, 1, true), "Grow")
	r.done(r.grow(1, 990, 34, true), "Grow")
	r.done(r.out(1, 0, row(32, 1)), "Out")
	for words := 1; words <= 1024; words += 11 {
		last := api.Word(0x8000 - words)
		r.done(r.out(1, last, row(words, 2)), "Out")
		r.done(r.in(1, last, words), "In")
		for _, err := range []api.Errno{r.in(1, last+1, words), r.out(1, last+1, row(words, 3)), r.fill(1, last+1, words, 4)} {
			if err != api.ErrFault {
				t.Fatalf("%d words up to 0x8000: %d, want ErrFault", words, err)
			}
		}
	}
	r.same()
	for words := 2; words <= 1024; words += 73 {
		r.all(1, api.Word(1<<32-words+1), words)
	}
	r.same()
}

func TestInTouches(t *testing.T) { // P17.1: words that were not stored are 0, of pages that come, and are charged
	r := ten(t)
	r.done(r.in(1, 30, 3), "In")
	r.same()
	if l := r.s.Mapped(1); !slices.Equal(l, []int{0, 1}) || r.b.Left(1) != 90-50-4 {
		t.Errorf("behind In: %v are mapped, %d left", l, r.b.Left(1))
	}
	r.done(r.in(1, 32*31+31, 2), "In")
	r.same()
	l, err := copy.In(r.s, 1, 32*1020, 128)
	if err != api.OK || len(l) != 128 || slices.ContainsFunc(l, func(w api.Word) bool { return w != 0 }) {
		t.Errorf("In of pages that come: %v %d", l, err)
	}
	r.in(1, 32*1020, 128)
	r.same()
	// Put, given up and given again they are 0.
	r.done(r.out(1, 0, row(128, 1)), "Out")
	r.done(r.shrink(1, 1, 2), "Shrink")
	r.done(r.grow(1, 1, 2, true), "Grow")
	r.done(r.in(1, 0, 128), "In")
	r.same()
}

func TestFillOfNought(t *testing.T) { // P17.2: it is put, as other words are
	r := ten(t)
	for _, w := range []api.Word{0, 1, 0x7fffffff, 0x80000000, 0xffffffff} {
		r.done(r.fill(1, 20, 50, w), "Fill")
		r.same()
		r.done(r.in(1, 0, 128), "In")
		r.done(r.fill(1, 31, 2, 0), "Fill")
		r.done(r.in(1, 0, 128), "In")
		r.same()
	}
}

func TestEachOnesOwn(t *testing.T) { // P17.3: of spaces that share pages
	for _, who := range []int{1, 2, 3} {
		r := ten(t)
		r.done(r.close(2), "Close")
		r.done(r.out(1, 0, row(128, 1)), "Out")
		r.done(r.fork(1, 2), "Fork")
		r.done(r.fork(2, 3), "Fork")
		r.same()
		held := r.frees - r.p.Left(1)
		for pid := 1; pid <= 3; pid++ {
			r.done(r.in(pid, 0, 128), "In")
		}
		if got := r.frees - r.p.Left(1); got != held {
			t.Errorf("taken, %d frames are held, it were %d", got, held)
		}
		// What is refused copies nothing.
		for _, err := range []api.Errno{r.out(who, 0, row(129, 4)), r.fill(who, 100, 50, 4)} {
			if err != api.ErrFault {
				t.Errorf("over the end of an area: %d, want ErrFault", err)
			}
		}
		if got := r.frees - r.p.Left(1); got != held {
			t.Errorf("refused, %d frames are held, it were %d", got, held)
		}
		r.same()
		r.done(r.out(who, 31, row(34, 5)), "Out")
		if got := r.frees - r.p.Left(1); got != held+3 {
			t.Errorf("put over three pages, %d frames are held, want %d", got, held+3)
		}
		r.same()
		for pid := 1; pid <= 3; pid++ {
			r.done(r.in(pid, 0, 128), "In")
			r.done(r.fill(pid, api.Word(90+pid), 10, api.Word(70+pid)), "Fill")
			r.same()
		}
	}
}

func TestPutWithNothingLeft(t *testing.T) { // P17.2, P17.3: a copy is charged nothing
	r := rigged(t, 12)
	r.done(r.grow(1, 0, 4, true), "Grow")
	r.done(r.out(1, 0, row(128, 1)), "Out")
	r.carve(2, 6)
	r.done(r.fork(1, 2), "Fork")
	r.done(r.out(1, 16, row(96, 2)), "Out")
	r.same()
	r.done(r.fill(2, 16, 96, 3), "Fill")
	r.done(r.in(1, 0, 128), "In")
	r.done(r.in(2, 0, 128), "In")
	r.same()
	if r.p.Left(1) != 0 {
		t.Errorf("%d frames are free, want none", r.p.Left(1))
	}
}

func TestMoved(t *testing.T) { // P17.1 to P17.3: what was taken is put elsewhere, over itself too
	for _, by := range []int{1, 7, 32, 33, 63} {
		r := ten(t)
		r.done(r.out(1, 0, row(60, 1)), "Out")
		for range 2 {
			l, err := copy.In(r.s, 1, 0, 60)
			r.done(err, "In")
			r.done(r.out(1, api.Word(by), l), "Out")
			r.same()
			l, err = copy.In(r.s, 1, api.Word(by), 60)
			r.done(err, "In")
			r.done(r.out(1, 0, l), "Out")
			r.same()
		}
	}
}

func TestWhatIsHandedIn(t *testing.T) { // P17.2: it is not changed, spare room included, and not kept
	r := ten(t)
	spare := row(200, 1)
	was := slices.Clone(spare)
	for _, many := range []int{0, 1, 32, 33, 100, 200} {
		for _, va := range []api.Word{0, 31, 100, 960, 0x8000} {
			r.out(1, va, spare[:many])
			if !slices.Equal(spare, was) {
				t.Fatalf("behind Out(1, %d) of %d words: %v", va, many, spare)
			}
		}
	}
	l := row(40, 2)
	r.done(r.out(1, 10, l), "Out")
	for i := range l {
		l[i] = 0xdead
	}
	r.same()
}

func TestAnswersAreNew(t *testing.T) { // P17.1
	r := ten(t)
	r.done(r.out(1, 0, row(64, 1)), "Out")
	first, err := copy.In(r.s, 1, 0, 40)
	second, again := copy.In(r.s, 1, 0, 40)
	if err != api.OK || again != api.OK {
		t.Fatalf("In: %d %d", err, again)
	}
	was := slices.Clone(second)
	for i := range first {
		first[i] = 0xdead
	}
	_ = append(first[:1], make([]api.Word, cap(first)-1)...)
	if !slices.Equal(second, was) {
		t.Errorf("a second answer changed with the first one: %v", second)
	}
	r.same()
	// What was told stays when other words are put.
	r.done(r.fill(1, 0, 64, 5), "Fill")
	r.done(r.close(1), "Close")
	if !slices.Equal(second, was) {
		t.Errorf("what was told: %v, it was %v", second, was)
	}
}

func TestPutIsTaken(t *testing.T) { // P17.3: as layer 16 loads and stores one word behind the other
	r, x := ten(t), random(17)
	for range 300 {
		va, words := x.below(128), 1+x.below(128)
		words = min(words, 128-va)
		for i := range words {
			w := api.Word(x.below(1 << 24))
			r.done(r.s.Store(1, api.Word(va+i), w), "Store")
			r.want[1].touch((va+i)/32, true)
			*r.want[1].at(api.Word(va), i) = w
		}
		r.done(r.in(1, api.Word(va), words), "In")
		l := row(words, va+1)
		r.done(r.out(1, api.Word(va), l), "Out")
		for i, want := range l {
			if w, err := r.s.Load(1, api.Word(va+i)); w != want || err != api.OK {
				t.Fatalf("Load(1, %d): %d %d, want %d", va+i, w, err, want)
			}
		}
	}
	r.same()
}

// step does something, of which most may be done; few pages, in few tables, so that they meet.
func (r *rig) step(x *random) {
	r.t.Helper()
	pid, other := 1+x.below(4), 1+x.below(4)
	from, many, write := pick(x, []int{0, 1, 2, 30, 31, 32, 33, 1022, 1023}), 1+x.below(3), x.below(3) > 0
	va := api.Word(32*pick(x, []int{0, 1, 2, 30, 31, 32, 33, 1022, 1023}) + x.below(32))
	words := 1 + x.below(70)
	switch x.below(60) {
	case 0:
		pid = pick(x, offPids)
	case 1:
		va = pick(x, offWords)
	case 2:
		words = pick(x, []int{0, 1024, 1025})
	}
	switch x.below(20) {
	case 0:
		r.open(pid)
	case 1:
		if x.below(3) == 0 {
			r.close(pid)
		}
	case 2, 3:
		r.fork(pid, other)
	case 4, 5, 6, 7:
		r.grow(pid, from, many, write)
	case 8:
		r.shrink(pid, from, many)
	case 9:
		r.protect(pid, from, many, write)
	case 10, 11, 12:
		r.in(pid, va, words)
	case 13, 14, 15:
		r.fill(pid, va, words, api.Word(x.below(1<<24)))
	default:
		r.out(pid, va, row(words, x.below(40000)))
	}
}

func TestRowsOfSteps(t *testing.T) { // P17.1 to P17.3
	for _, quota := range []int{8, 12, 16, 20, 30, 40, 60, 100} {
		for seed := range 6 {
			r, x := rigged(t, quota), random(1000*quota+seed)
			for id := 2; id <= 4; id++ {
				r.carve(id, quota/5)
			}
			for at := range 700 {
				r.step(&x)
				if at%8 == 0 {
					r.same()
				}
			}
			r.same()
		}
	}
}

func TestItIsFixed(t *testing.T) { // the same calls have the same answers, down to the memory's words
	for seed := range 5 {
		a, b := rigged(t, 40), rigged(t, 40)
		x, y := random(seed), random(seed)
		for id := 2; id <= 4; id++ {
			a.carve(id, 9)
			b.carve(id, 9)
		}
		for range 500 {
			a.step(&x)
			b.step(&y)
		}
		for f := range a.m.Frames() {
			l, _ := a.m.Page(f)
			k, _ := b.m.Page(f)
			if !slices.Equal(l, k) || a.p.Refs(f) != b.p.Refs(f) {
				t.Fatalf("the frame %d: %v %d, %v %d", f, l, a.p.Refs(f), k, b.p.Refs(f))
			}
		}
	}
}

func TestOthersInTheWay(t *testing.T) { // nothing panics, whatever others do with the memory and the frames
	for _, word := range []api.Word{0, 1, 3, 5, 0x101, 0x40001, 0x3ff03, 0xffffffff} {
		for way := range 3 {
			r := rigged(t, 12)
			r.done(r.grow(1, 0, 6, true), "Grow")
			r.done(r.out(1, 0, row(50, 1)), "Out")
			for f := 10; f < 22; f++ {
				switch way {
				case 0:
					r.p.Free(f)
				case 1:
					r.p.Alloc(1)
				default:
					for place := range 32 {
						r.m.Write(f, place, word)
					}
				}
			}
			for _, words := range []int{1, 33, 190, 192, 193} {
				copy.In(r.s, 1, 0, words)
				copy.Out(r.s, 1, 0, row(words, 2))
				copy.Fill(r.s, 1, 0, words, 3)
			}
		}
	}
}
