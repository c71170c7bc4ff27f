package space_test

import (
	"math"
	"slices"
	"testing"

	"priory/api"
	"priory/budget"
	"priory/mem"
	"priory/palloc"
	"priory/space"
	"priory/walk"
)

// offPids are numbers that no process has, among them such of which the lower bits alone are one's.
var offPids = []int{math.MinInt, math.MinInt + 1, -1 << 32, -1<<32 + 1, -1 << 31, -257, -255, -9, -8, -1, 0, 9, 10, 16, 17, 255, 256, 257, 65537, math.MaxInt32, 1 << 32, 1<<32 + 1, math.MaxInt - 1, math.MaxInt}

// offPages are pages that there are not: from which one on, and how many.
var offPages = [][2]int{
	{0, 0}, {3, 0}, {3, -1}, {-1, 1}, {-1, 2}, {-1, 1025}, {0, 1025}, {1, 1024}, {1023, 2}, {1024, 1}, {1024, 0}, {1024, -1},
	{0, math.MaxInt}, {3, math.MaxInt}, {1023, math.MaxInt}, {math.MaxInt, 1}, {math.MaxInt, math.MaxInt}, {math.MinInt, 1}, {math.MinInt, math.MinInt}, {math.MinInt, math.MaxInt},
	{-5, 1 << 40}, {1<<32 + 3, 1}, {3, 1<<32 + 1}, {3, math.MinInt}, {1 << 31, 1 << 31}, {math.MaxInt, 2 - math.MaxInt},
}

// offWords are addresses that are none.
var offWords = []api.Word{0x8000, 0x8001, 0x8021, 0xffff, 0x10000, 0x10021, 0x80000000, 0x80000021, 0xffffffe0, 0xffffffff}

// random is a row of numbers that is always the same.
type random uint32

// below tells the next number, which is below n.
func (r *random) below(n int) int {
	*r = *r*1664525 + 1013904223
	return int(*r>>8) % n
}

// pick tells one of a list.
func pick[T any](r *random, l []T) T { return l[r.below(len(l))] }

// held is a frame of pages: how many have it.
type held struct{ refs int }

// page is one that is mapped: its words, which are nobody else's, and the frame that it should have.
type page struct {
	words [32]api.Word
	in    *held
}

// model is a space as it should be: of each page 'w', if it may be written to, 'r', if it may be read alone, 0, if it is in no area.
type model struct {
	kinds [1024]byte
	pages map[int]*page
}

// cost tells what a space is charged, that has these pages, too.
func (s *model) cost(more ...int) int {
	pages, tables := map[int]bool{}, map[int]bool{}
	for n := range s.pages {
		pages[n], tables[n/32] = true, true
	}
	for _, n := range more {
		pages[n], tables[n/32] = true, true
	}
	return 1 + len(pages) + len(tables)
}

// tables tells how many tables there are, the root among them.
func (s *model) tables() int { return s.cost() - len(s.pages) }

// mapped lists the pages that are mapped.
func (s *model) mapped() []int {
	var l []int
	for n := range s.kinds {
		if s.pages[n] != nil {
			l = append(l, n)
		}
	}
	return l
}

// areasOf lists the areas in which pages of those kinds are.
func areasOf(kinds [1024]byte) []api.Area {
	var l []api.Area
	for n, k := range kinds {
		switch {
		case k == 0:
		case n > 0 && kinds[n-1] == k:
			l[len(l)-1].Many++
		default:
			l = append(l, api.Area{From: n, Many: 1, Write: k == 'w'})
		}
	}
	return l
}

// kind tells the letter of pages that may be written to, or not.
func kind(write bool) byte {
	if write {
		return 'w'
	}
	return 'r'
}

// drop is the end of a page.
func (s *model) drop(n int) {
	if p := s.pages[n]; p != nil {
		p.in.refs--
		delete(s.pages, n)
	}
}

// touch is P16.4's.
func (s *model) touch(n int, write bool) *page {
	p := s.pages[n]
	if p == nil {
		p = &page{in: &held{refs: 1}}
		s.pages[n] = p
	}
	if write && p.in.refs > 1 {
		p.in.refs--
		p.in = &held{refs: 1}
	}
	return p
}

// fork is a second space like it.
func (s *model) fork() *model {
	to := &model{kinds: s.kinds, pages: map[int]*page{}}
	for n, p := range s.pages {
		p.in.refs++
		to.pages[n] = &page{words: p.words, in: p.in}
	}
	return to
}

// rig is spaces, what they work over, and what should be there.
type rig struct {
	t     *testing.T
	m     *mem.Mem
	p     *palloc.Pool
	part  int
	b     *budget.Budget
	s     *space.Spaces
	want  map[int]*model
	frees int
}

// over is a pool of a memory of so many frames, all of whose words differ.
func over(t *testing.T, frames int, l ...api.Range) (*mem.Mem, *palloc.Pool) {
	t.Helper()
	m, err := mem.New(frames)
	if err != api.OK {
		t.Fatalf("mem.New(%d): %d", frames, err)
	}
	for f := range frames {
		for p := range 32 {
			m.Write(f, p, strange(f, p))
		}
	}
	p, err := palloc.New(m, l)
	if err != api.OK {
		t.Fatalf("palloc.New(%v): %d", l, err)
	}
	return m, p
}

// strange is the word that stands at a place at first.
func strange(frame, place int) api.Word { return 0x80000000 | api.Word(32*frame+place) }

// containers is a budget of that quota.
func containers(t *testing.T, quota int) *budget.Budget {
	t.Helper()
	b, err := budget.New(quota)
	if err != api.OK {
		t.Fatalf("budget.New(%d): %d", quota, err)
	}
	return b
}

// rigged is spaces of the middle one of three partitions, which has as many frames, from 10 on, as the budget's quota.
func rigged(t *testing.T, quota int) *rig {
	t.Helper()
	many := max(quota, 1)
	m, p := over(t, many+20, api.Range{From: 0, Many: 10}, api.Range{From: 10, Many: many}, api.Range{From: 10 + many, Many: 10})
	b := containers(t, quota)
	s, err := space.New(m, p, 1, b)
	if s == nil || err != api.OK {
		t.Fatalf("New: %v %d", s, err)
	}
	return &rig{t: t, m: m, p: p, part: 1, b: b, s: s, want: map[int]*model{}, frees: p.Left(1)}
}

// carve opens a container that is carved from the first one.
func (r *rig) carve(id, quota int) {
	r.t.Helper()
	if err := r.b.Open(id, 1, quota); err != api.OK {
		r.t.Fatalf("the budget's Open(%d, 1, %d): %d", id, quota, err)
	}
}

// leave leaves so much of a container, by means of another one that is carved from it, 8.
func (r *rig) leave(pid, left int) {
	r.t.Helper()
	more := r.b.Left(pid) - left
	if err := r.b.Open(8, pid, more); err != api.OK {
		r.t.Fatalf("the budget's Open(8, %d, %d): %d", pid, more, err)
	}
}

// back is leave's end.
func (r *rig) back() {
	r.t.Helper()
	if err := r.b.Close(8); err != api.OK {
		r.t.Fatalf("the budget's Close(8): %d", err)
	}
}

// isContainer: is there such a container?
func (r *rig) isContainer(id int) bool {
	return slices.ContainsFunc(r.b.All(), func(n api.Node) bool { return n.Id == id })
}

// asked tells what is asked first of a process's space.
func (r *rig) asked(pid int) api.Errno {
	switch {
	case pid < 1 || pid > 8:
		return api.ErrArg
	case r.want[pid] == nil:
		return api.ErrNone
	}
	return api.OK
}

// answers holds an error against the one that there should be.
func (r *rig) answers(err, want api.Errno, call string, args ...any) {
	r.t.Helper()
	if err != want {
		r.t.Fatalf("%s of %v: %d, want %d", call, args, err, want)
	}
}

// open asks for a space, and holds the answer against what should be said.
func (r *rig) open(pid int) {
	r.t.Helper()
	want := api.OK
	switch {
	case pid < 1 || pid > 8:
		want = api.ErrArg
	case !r.isContainer(pid):
		want = api.ErrNone
	case r.want[pid] != nil:
		want = api.ErrThere
	case r.b.Left(pid) < 1:
		want = api.ErrFull
	default:
		r.want[pid] = &model{pages: map[int]*page{}}
	}
	r.answers(r.s.Open(pid), want, "Open", pid)
}

// close asks for a space's end likewise.
func (r *rig) close(pid int) {
	r.t.Helper()
	want := r.asked(pid)
	if want == api.OK {
		for _, n := range r.want[pid].mapped() {
			r.want[pid].drop(n)
		}
		delete(r.want, pid)
	}
	r.answers(r.s.Close(pid), want, "Close", pid)
}

// fork asks Fork likewise.
func (r *rig) fork(from, to int) {
	r.t.Helper()
	want := api.OK
	switch {
	case from < 1 || from > 8 || to < 1 || to > 8:
		want = api.ErrArg
	case r.want[from] == nil || !r.isContainer(to):
		want = api.ErrNone
	case r.want[to] != nil:
		want = api.ErrThere
	case r.b.Left(to) < r.want[from].cost():
		want = api.ErrFull
	default:
		r.want[to] = r.want[from].fork()
	}
	r.answers(r.s.Fork(from, to), want, "Fork", from, to)
}

// arePages: are there these pages? It is counted, not reckoned.
func arePages(from, many int) bool {
	if from < 0 || from > 1023 || many < 1 || many > 1024 {
		return false
	}
	last := from
	for range many - 1 {
		last++
	}
	return last <= 1023
}

// change tells layer 14's error, of pages that should be in areas, or in none, and become of that letter; with none it is done.
func (r *rig) change(pid, from, many int, in bool, to byte) api.Errno {
	if err := r.asked(pid); err != api.OK {
		return err
	}
	if !arePages(from, many) {
		return api.ErrArg
	}
	s := r.want[pid]
	kinds := s.kinds
	for n := from; n < from+many; n++ {
		switch {
		case in && kinds[n] == 0:
			return api.ErrNone
		case !in && kinds[n] != 0:
			return api.ErrThere
		}
	}
	for n := from; n < from+many; n++ {
		kinds[n] = to
	}
	if len(areasOf(kinds)) > 8 {
		return api.ErrFull
	}
	s.kinds = kinds
	for n := from; n < from+many && to == 0; n++ {
		s.drop(n)
	}
	return api.OK
}

// grow, shrink and protect ask likewise.
func (r *rig) grow(pid, from, many int, write bool) {
	r.t.Helper()
	want := r.change(pid, from, many, false, kind(write))
	r.answers(r.s.Grow(pid, api.Area{From: from, Many: many, Write: write}), want, "Grow", pid, from, many, write)
}

func (r *rig) shrink(pid, from, many int) {
	r.t.Helper()
	want := r.change(pid, from, many, true, 0)
	r.answers(r.s.Shrink(pid, from, many), want, "Shrink", pid, from, many)
}

func (r *rig) protect(pid, from, many int, write bool) {
	r.t.Helper()
	want := r.change(pid, from, many, true, kind(write))
	r.answers(r.s.Protect(pid, from, many, write), want, "Protect", pid, from, many, write)
}

// reached tells the error of words that are reached, each asked in turn; with none it is done.
func (r *rig) reached(pid int, va api.Word, words int, write bool) api.Errno {
	switch {
	case pid < 1 || pid > 8 || words < 1 || words > 1024:
		return api.ErrArg
	case r.want[pid] == nil:
		return api.ErrNone
	}
	s := r.want[pid]
	var pages []int
	for i := range uint64(words) {
		at := uint64(va) + i
		switch {
		case at >= 32768 || s.kinds[at/32] == 0:
			return api.ErrFault
		case write && s.kinds[at/32] != 'w':
			return api.ErrPerm
		}
		pages = append(pages, int(at/32))
	}
	if r.b.Left(pid) < s.cost(pages...)-s.cost() {
		return api.ErrFull
	}
	for _, n := range pages {
		s.touch(n, write)
	}
	return api.OK
}

// load, store and reach ask likewise.
func (r *rig) load(pid int, va api.Word) {
	r.t.Helper()
	want, word := r.reached(pid, va, 1, false), api.Word(0)
	if want == api.OK {
		word = r.want[pid].pages[int(va/32)].words[va%32]
	}
	got, err := r.s.Load(pid, va)
	r.answers(err, want, "Load", pid, va)
	if got != word {
		r.t.Fatalf("Load(%d, %d): %d, want %d", pid, va, got, word)
	}
}

func (r *rig) store(pid int, va, w api.Word) {
	r.t.Helper()
	want := r.reached(pid, va, 1, true)
	if want == api.OK {
		r.want[pid].pages[int(va/32)].words[va%32] = w
	}
	r.answers(r.s.Store(pid, va, w), want, "Store", pid, va, w)
}

func (r *rig) reach(pid int, va api.Word, words int, write bool) {
	r.t.Helper()
	want := r.reached(pid, va, words, write)
	r.answers(r.s.Reach(pid, va, words, write), want, "Reach", pid, va, words, write)
}

// same holds all that is told, the containers, the frames and the words against what should be there.
func (r *rig) same() {
	r.t.Helper()
	for _, pid := range append([]int{1, 2, 3, 4, 5, 6, 7, 8}, offPids...) {
		r.told(pid)
	}
	r.charged()
	r.others()
}

// told holds what is told of a space against its model.
func (r *rig) told(pid int) {
	r.t.Helper()
	areas, mapped := r.s.Areas(pid), r.s.Mapped(pid)
	s := r.want[pid]
	if s == nil {
		if len(areas) != 0 || len(mapped) != 0 {
			r.t.Fatalf("of %d, which has no space: %v %v", pid, areas, mapped)
		}
		return
	}
	if want := areasOf(s.kinds); !slices.Equal(areas, want) {
		r.t.Fatalf("Areas(%d): %v, want %v", pid, areas, want)
	}
	if want := s.mapped(); !slices.Equal(mapped, want) {
		r.t.Fatalf("Mapped(%d): %v, want %v", pid, mapped, want)
	}
	for n, p := range s.pages {
		for place, want := range p.words {
			if w, err := r.s.Load(pid, api.Word(32*n+place)); w != want || err != api.OK {
				r.t.Fatalf("Load(%d, %d), the page %d: %#x %d, want %#x", pid, 32*n+place, n, w, err, want)
			}
		}
	}
}

// charged holds what containers use, and how many frames are held, against the models.
func (r *rig) charged() {
	r.t.Helper()
	used, frames := 0, map[*held]bool{}
	tables := 0
	for _, n := range r.b.All() {
		want := 0
		if s := r.want[n.Id]; s != nil {
			want = s.cost()
			tables += s.tables()
			for _, p := range s.pages {
				frames[p.in] = true
			}
		}
		if n.Used != want {
			r.t.Fatalf("Used of the container %d: %d, want %d", n.Id, n.Used, want)
		}
		used += want
	}
	got := r.frees - r.p.Left(r.part)
	if got > used {
		r.t.Fatalf("%d frames are held, %d charged", got, used)
	}
	if want := tables + len(frames); got != want {
		r.t.Fatalf("%d frames are held, want %d for tables and %d for pages", got, tables, len(frames))
	}
}

// others holds against it that nobody else's frames were taken, or written to.
func (r *rig) others() {
	r.t.Helper()
	for f := range r.m.Frames() {
		if owner, err := r.p.Owner(f); err == api.OK && owner == r.part {
			continue
		}
		if n := r.p.Refs(f); n != 0 {
			r.t.Fatalf("the frame %d of another one is held %d times", f, n)
		}
		l, _ := r.m.Page(f)
		for place, w := range l {
			if w != strange(f, place) {
				r.t.Fatalf("the word %d of the frame %d of another one: %#x", place, f, w)
			}
		}
	}
}

// ten is spaces of the processes 1 and 2: 1 has the pages 0 to 3 (to be written to), 30 to 33 (to be read), 1020 to 1023 (to be written to), 2 has none.
func ten(t *testing.T) *rig {
	t.Helper()
	r := rigged(t, 60)
	r.carve(2, 20)
	r.open(1)
	r.open(2)
	r.grow(1, 0, 4, true)
	r.grow(1, 30, 4, false)
	r.grow(1, 1020, 4, true)
	r.same()
	return r
}

func TestNewOfNothing(t *testing.T) { // P16.1
	m, p := over(t, 20, api.Range{From: 0, Many: 10}, api.Range{From: 10, Many: 10})
	b := containers(t, 10)
	for _, memory := range []*mem.Mem{nil, {}, m} {
		for _, pool := range []*palloc.Pool{nil, {}, p} {
			for _, of := range []*budget.Budget{nil, {}, b} {
				if memory == m && pool == p && of == b {
					continue
				}
				// ErrNil goes ahead of ErrArg.
				for _, part := range []int{0, 1, 2, -1, math.MinInt, math.MaxInt} {
					if s, err := space.New(memory, pool, part, of); s != nil || err != api.ErrNil {
						t.Errorf("New without something, of %d: %v %d, want ErrNil", part, s, err)
					}
				}
			}
		}
	}
}

func TestNewOfNoPartition(t *testing.T) { // P16.1
	m, p := over(t, 30, api.Range{From: 0, Many: 10}, api.Range{From: 15, Many: 5}, api.Range{From: 20, Many: 10})
	for _, quota := range []int{0, 1, 5} {
		b := containers(t, quota)
		for part := range 3 {
			if s, err := space.New(m, p, part, b); s == nil || err != api.OK {
				t.Errorf("New of %d, the quota %d: %v %d", part, quota, s, err)
			}
		}
		for _, part := range []int{-1, 3, 4, 8, 256, math.MinInt, math.MinInt + 1, -1 << 32, 1 << 32, 1<<32 + 1, math.MaxInt} {
			if s, err := space.New(m, p, part, b); s != nil || err != api.ErrArg {
				t.Errorf("New of %d, the quota %d: %v %d, want ErrArg", part, quota, s, err)
			}
		}
	}
	if p.Left(0) != 10 || p.Left(1) != 5 || p.Left(2) != 10 {
		t.Errorf("Left: %d %d %d", p.Left(0), p.Left(1), p.Left(2))
	}
}

func TestNewOfTooFewFrames(t *testing.T) { // P16.1
	for free := range 10 {
		m, p := over(t, 30, api.Range{From: 0, Many: 20}, api.Range{From: 20, Many: 9})
		for range 9 - free {
			p.Alloc(1)
		}
		for _, quota := range []int{0, 1, 2, 5, 8, 9, 10, 20, 256, 65536} {
			b := containers(t, quota)
			// What is carved from the first one is not asked: its Quota is.
			if b.Open(2, 1, quota) != api.OK {
				t.Fatal("no container")
			}
			want := api.OK
			if free < quota {
				want = api.ErrArg
			}
			if s, err := space.New(m, p, 1, b); (s != nil) != (want == api.OK) || err != want {
				t.Errorf("New, %d frames free, the Quota %d: %v %d, want %d", free, quota, s, err, want)
			}
		}
		if p.Left(1) != free {
			t.Errorf("Left: %d, want %d", p.Left(1), free)
		}
	}
}

func TestOfNothing(t *testing.T) { // ErrNil goes ahead of all, in P16.1 to P16.5
	m, p := over(t, 20, api.Range{From: 0, Many: 10})
	refused, _ := space.New(m, p, 1, containers(t, 3))
	for _, s := range []*space.Spaces{nil, {}, refused} {
		for _, n := range append([]int{1, 2, 8}, offPids...) {
			errs := []api.Errno{
				s.Open(n), s.Close(n), s.Fork(n, 2), s.Fork(1, n),
				s.Grow(n, api.Area{From: 0, Many: 1}), s.Grow(1, api.Area{From: n, Many: n}),
				s.Shrink(n, 0, 1), s.Shrink(1, n, n), s.Protect(n, 0, 1, true), s.Protect(1, n, n, false),
				s.Store(n, 0, 1), s.Store(1, 0xffffffff, 1), s.Reach(n, 0, 1, true), s.Reach(1, 0x8000, n, false),
			}
			_, err := s.Load(n, 0)
			w, bad := s.Load(n, 0x8000)
			for i, err := range append(errs, err, bad) {
				if err != api.ErrNil {
					t.Errorf("the call %d of %d of no spaces: %d, want ErrNil", i, n, err)
				}
			}
			if w != 0 || len(s.Areas(n)) != 0 || len(s.Mapped(n)) != 0 {
				t.Errorf("of no spaces: %d %v %v", w, s.Areas(n), s.Mapped(n))
			}
		}
	}
}

func TestProcessesThatThereAreNot(t *testing.T) { // ErrArg goes ahead of ErrNone, in P16.1 to P16.4
	r := ten(t)
	for _, pid := range offPids {
		r.open(pid)
		r.close(pid)
		for other := 1; other <= 3; other++ {
			r.fork(pid, other)
			r.fork(other, pid)
		}
		r.fork(pid, pid)
		for _, l := range append([][2]int{{0, 1}, {5, 1}, {0, 4}}, offPages...) {
			r.grow(pid, l[0], l[1], true)
			r.shrink(pid, l[0], l[1])
			r.protect(pid, l[0], l[1], false)
		}
		for _, va := range append([]api.Word{0, 31, 33, 1000}, offWords...) {
			r.load(pid, va)
			r.store(pid, va, 7)
			for _, words := range []int{-1, 0, 1, 1024, 1025} {
				r.reach(pid, va, words, true)
			}
		}
	}
	r.same()
}

func TestSpacesThatThereAreNot(t *testing.T) { // ErrNone, in P16.1 to P16.4
	r := ten(t)
	r.carve(3, 5)
	r.open(3)
	r.close(3)
	// 3 has a container, 4 to 8 have none.
	for pid := 3; pid <= 8; pid++ {
		r.close(pid)
		for other := 1; other <= 8; other++ {
			r.fork(pid, other)
		}
		// P16.3 names ErrNone of no space ahead of layer 14's errors.
		for _, l := range append([][2]int{{0, 1}, {5, 1}, {0, 4}}, offPages...) {
			r.grow(pid, l[0], l[1], true)
			r.shrink(pid, l[0], l[1])
			r.protect(pid, l[0], l[1], false)
		}
		// Of Reach's words ErrArg goes ahead, of what there is no address ErrNone.
		for _, va := range append([]api.Word{0, 31, 33, 1000}, offWords...) {
			r.load(pid, va)
			r.store(pid, va, 7)
			for _, words := range []int{math.MinInt, -1, 0, 1, 2, 1024, 1025, math.MaxInt} {
				r.reach(pid, va, words, true)
				r.reach(pid, va, words, false)
			}
		}
	}
	r.same()
}

func TestOpen(t *testing.T) { // P16.1
	r := rigged(t, 10)
	for pid := 8; pid >= 1; pid-- {
		// Without a container ErrNone, of 1 none.
		r.open(pid)
		r.same()
	}
	for pid := 2; pid <= 6; pid++ {
		r.carve(pid, 1)
		r.open(pid)
		r.same()
		// Nothing is left: ErrThere goes ahead of ErrFull.
		r.open(pid)
		r.same()
	}
	r.carve(7, 0)
	r.open(7)
	r.same()
	if err := r.s.Open(7); err != api.ErrFull {
		t.Errorf("Open of a container of the Quota 0: %d, want ErrFull", err)
	}
	// 4 are left of 1; all of them are carved from it, so it is full, yet it is there.
	r.carve(8, 4)
	r.open(1)
	r.close(1)
	r.open(1)
	r.same()
}

func TestOpenOfAFullOne(t *testing.T) { // P16.1
	r := rigged(t, 10)
	r.leave(1, 0)
	r.open(1)
	r.same()
	if err := r.s.Open(1); err != api.ErrFull {
		t.Errorf("Open, where nothing is left: %d, want ErrFull", err)
	}
	r.back()
	r.leave(1, 1)
	r.open(1)
	r.same()
	none := rigged(t, 0)
	none.open(1)
	none.same()
	if err := none.s.Open(1); err != api.ErrFull {
		t.Errorf("Open of the Quota 0: %d, want ErrFull", err)
	}
}

func TestOpenIsWithoutAreas(t *testing.T) { // P16.1
	r := ten(t)
	for _, va := range []api.Word{0, 1, 31, 32, 0x7fff} {
		r.load(2, va)
		r.store(2, va, 1)
	}
	r.store(1, 5, 9)
	r.close(1)
	r.open(1)
	r.load(1, 5)
	r.grow(1, 0, 1, true)
	r.load(1, 5)
	r.same()
}

func TestClose(t *testing.T) { // P16.1, P16.7
	r := ten(t)
	for _, va := range []api.Word{0, 32, 33, 1000, 1030, 0x7fff} {
		r.load(1, va)
	}
	r.store(1, 0x7fe0, 8)
	r.same()
	r.close(1)
	r.same()
	if r.b.Left(1) != 40 || r.frees-r.p.Left(1) != 1 {
		t.Errorf("behind Close: %d left, %d held", r.b.Left(1), r.frees-r.p.Left(1))
	}
	r.close(1)
	r.close(2)
	r.same()
	if r.p.Left(1) != r.frees {
		t.Errorf("%d frames are held", r.frees-r.p.Left(1))
	}
	// Containers can be closed then.
	if err := r.b.Close(2); err != api.OK {
		t.Errorf("the budget's Close: %d", err)
	}
}

func TestCloseOfOneThatShares(t *testing.T) { // P16.1, P16.2, P16.6
	for _, first := range []int{1, 2} {
		r := ten(t)
		r.close(2)
		for _, va := range []api.Word{0, 33, 1000, 0x7fff} {
			r.load(1, va)
		}
		r.store(1, 33, 7)
		r.store(1, 0x7fff, 8)
		r.fork(1, 2)
		r.same()
		r.close(first)
		r.same()
		// Whoever is left owns the frames: none more is held behind a store.
		was := r.p.Left(1)
		r.store(3-first, 33, 9)
		r.store(3-first, 0, 9)
		r.same()
		if r.p.Left(1) != was {
			t.Errorf("%d frames are free, it were %d", r.p.Left(1), was)
		}
	}
}

func TestForkIsRefused(t *testing.T) { // P16.2
	r := ten(t)
	r.carve(3, 20)
	r.carve(4, 0)
	for from := 1; from <= 8; from++ {
		for to := 1; to <= 8; to++ {
			if from == 1 && to == 3 || from == 2 && to == 3 {
				continue
			}
			// A space to, no space from: ErrNone goes ahead; a full one, too, that is there: ErrThere.
			r.fork(from, to)
		}
	}
	r.leave(2, 0)
	r.fork(1, 2)
	r.fork(2, 2)
	r.fork(1, 1)
	r.same()
}

func TestForkIsCharged(t *testing.T) { // P16.2, P16.7
	// Pages of one table, of two, of the root alone: what is charged is 1, tables and pages.
	for _, l := range [][]int{{}, {0}, {0, 3}, {3, 31}, {0, 31, 32}, {0, 1, 2, 3, 30, 31, 32, 33, 1020, 1023}} {
		r := ten(t)
		r.close(2)
		for _, n := range l {
			r.load(1, api.Word(32*n))
		}
		cost := r.want[1].cost()
		for left := cost + 1; left >= 0; left-- {
			r.leave(2, left)
			r.fork(1, 2)
			r.same()
			if is := r.want[2] != nil; is != (left >= cost) {
				t.Errorf("Fork of %v, with %d left: %v", l, left, is)
			}
			if r.want[2] != nil {
				r.close(2)
			}
			r.same()
			r.back()
		}
	}
}

func TestForkIsTheSame(t *testing.T) { // P16.2, P16.6
	r := ten(t)
	r.close(2)
	for _, n := range []int{0, 2, 1020, 1023} {
		for place := range 32 {
			r.store(1, api.Word(32*n+place), api.Word(1000*n+place))
		}
	}
	r.load(1, 32*30)
	r.fork(1, 2)
	r.same()
	held := r.frees - r.p.Left(1)
	// A page that is touched by one of them is not the other one's.
	r.load(2, 32)
	r.store(1, 34, 5)
	r.same()
	// Loads copy nothing, stores do, once.
	r.load(2, 0)
	r.load(1, 64)
	if got := r.frees - r.p.Left(1); got != held+2 {
		t.Errorf("%d frames are held, want %d", got, held+2)
	}
	r.store(2, 0, 77)
	r.same()
	r.store(2, 1, 78)
	r.same()
	r.store(1, 0, 79)
	r.same()
	r.store(1, 0x7fff, 80)
	r.same()
	r.store(2, 0x7fff, 81)
	r.same()
	if got := r.frees - r.p.Left(1); got != held+4 {
		t.Errorf("%d frames are held, want %d", got, held+4)
	}
	// The areas are each one's own, too.
	r.shrink(2, 0, 2)
	r.protect(1, 1020, 2, false)
	r.grow(2, 500, 3, true)
	r.load(1, 0)
	r.same()
}

func TestForkOfForks(t *testing.T) { // P16.2, P16.6, P16.7
	r := rigged(t, 80)
	for pid := 2; pid <= 8; pid++ {
		r.carve(pid, 10)
	}
	r.open(1)
	r.grow(1, 31, 2, true)
	r.store(1, 32*31+5, 1)
	r.store(1, 32*32+5, 2)
	r.same()
	for pid := 2; pid <= 8; pid++ {
		r.fork(pid-1, pid)
		r.same()
	}
	// All eight have the same two pages: 8 roots, 16 tables, 2 frames.
	if got := r.frees - r.p.Left(1); got != 26 {
		t.Errorf("%d frames are held, want 26", got)
	}
	for pid := 8; pid >= 1; pid-- {
		r.store(pid, 32*31+5, api.Word(10*pid))
		r.same()
	}
	for pid := 1; pid <= 8; pid++ {
		r.store(pid, 32*32+6, api.Word(100*pid))
		r.same()
	}
	if got := r.frees - r.p.Left(1); got != 40 {
		t.Errorf("%d frames are held, want 40", got)
	}
	for _, pid := range []int{4, 1, 8, 2, 7, 3, 6, 5} {
		r.close(pid)
		r.same()
	}
}

func TestForkAgain(t *testing.T) { // P16.2, P16.6
	r := ten(t)
	r.close(2)
	r.store(1, 0, 1)
	r.store(1, 32, 2)
	for i := range 10 {
		r.fork(1, 2)
		r.same()
		if i%2 == 0 {
			r.store(1, 0, api.Word(10+i))
		}
		if i%3 == 0 {
			r.store(2, 32, api.Word(20+i))
		}
		r.same()
		r.close(2)
		r.store(1, 1, api.Word(i))
		r.same()
	}
}

func TestPagesThatThereAreNot(t *testing.T) { // P16.3
	r := ten(t)
	r.load(1, 0)
	for _, l := range offPages {
		for pid := 1; pid <= 3; pid++ {
			for _, write := range []bool{true, false} {
				r.grow(pid, l[0], l[1], write)
				r.protect(pid, l[0], l[1], write)
			}
			r.shrink(pid, l[0], l[1])
		}
	}
	r.same()
}

func TestGrow(t *testing.T) { // P16.3
	r := ten(t)
	r.load(1, 0)
	was := r.b.Left(1)
	// A page that is in an area already: ErrThere, whatever is written.
	for _, l := range [][2]int{{0, 1}, {3, 1}, {3, 2}, {0, 4}, {0, 1024}, {33, 1}, {29, 2}, {1019, 5}, {1023, 1}, {1, 1}} {
		r.grow(1, l[0], l[1], true)
		r.grow(1, l[0], l[1], false)
	}
	r.same()
	// Joined with those that lie side by side, or not.
	r.grow(1, 4, 3, true)
	r.grow(1, 7, 3, false)
	r.grow(1, 34, 2, false)
	r.grow(1, 10, 20, true)
	r.grow(1, 512, 1, true)
	r.grow(1, 1019, 1, false)
	r.same()
	// Nothing is charged till it is touched.
	if r.b.Left(1) != was {
		t.Errorf("Left: %d, it was %d", r.b.Left(1), was)
	}
	r.store(1, 32*6, 1)
	r.store(1, 32*8, 1)
	r.load(1, 32*8)
	r.same()
}

func TestTooManyAreas(t *testing.T) { // P16.3
	r := rigged(t, 20)
	r.open(1)
	for i := range 8 {
		r.grow(1, 10*i, 5, i%2 == 0)
	}
	r.load(1, 2*32)
	r.load(1, 12*32)
	r.same()
	// A ninth one, whatever makes it.
	r.grow(1, 100, 1, true)
	r.grow(1, 1023, 1, false)
	r.grow(1, 5, 1, false)
	r.shrink(1, 2, 1)
	r.shrink(1, 11, 3)
	r.protect(1, 2, 1, false)
	r.protect(1, 12, 1, true)
	r.protect(1, 4, 1, false)
	r.same()
	// Where it becomes none more, it may be.
	r.grow(1, 5, 1, true)
	r.shrink(1, 0, 3)
	r.protect(1, 10, 5, true)
	r.same()
	r.shrink(1, 70, 5)
	r.shrink(1, 12, 1)
	r.same()
}

func TestShrink(t *testing.T) { // P16.3, P16.7
	r := ten(t)
	for _, n := range []int{0, 1, 3, 30, 31, 32, 33, 1020, 1022} {
		r.load(1, api.Word(32*n+7))
	}
	r.store(1, 0x7fc5, 3)
	r.same()
	// Pages that are in no area, of which some are in one.
	for _, l := range [][2]int{{4, 1}, {3, 2}, {0, 5}, {29, 1}, {29, 5}, {0, 1024}, {1019, 5}, {34, 1}} {
		r.shrink(1, l[0], l[1])
	}
	r.same()
	// In the middle; a table goes with its last page; two tables at once; pages that were not mapped.
	for _, l := range [][2]int{{1, 2}, {32, 1}, {33, 1}, {31, 1}, {1020, 4}, {0, 1}, {30, 1}, {3, 1}} {
		r.shrink(1, l[0], l[1])
		r.same()
		r.load(1, api.Word(32*l[0]))
		r.shrink(1, l[0], l[1])
		r.same()
	}
	if len(r.s.Areas(1)) != 0 || r.b.Left(1) != 39 {
		t.Errorf("behind all: %v, %d left", r.s.Areas(1), r.b.Left(1))
	}
}

func TestShrinkForgets(t *testing.T) { // P16.3, P16.6
	r := ten(t)
	for _, va := range []api.Word{0, 33, 34, 95, 0x7fff} {
		r.store(1, va, va+1)
	}
	r.shrink(1, 0, 4)
	r.grow(1, 1, 2, true)
	for _, va := range []api.Word{0, 33, 34, 95, 0x7fff} {
		r.load(1, va)
	}
	r.same()
	// Neither what was another one's.
	r.grow(2, 0, 10, true)
	for n := range 10 {
		r.reach(2, api.Word(32*n), 32, n%2 == 0)
	}
	r.same()
}

func TestShrinkOfWhatIsShared(t *testing.T) { // P16.3, P16.6
	r := ten(t)
	r.close(2)
	for _, n := range []int{0, 1, 2, 31} {
		r.load(1, api.Word(32*n))
	}
	r.store(1, 33, 6)
	r.fork(1, 2)
	r.shrink(1, 1, 2)
	r.same()
	r.load(2, 33)
	r.store(2, 33, 7)
	r.same()
	r.shrink(2, 0, 3)
	r.shrink(2, 31, 1)
	r.load(1, 0)
	r.same()
}

func TestProtect(t *testing.T) { // P16.3, P16.4
	r := ten(t)
	r.store(1, 0, 1)
	r.load(1, 32)
	r.load(1, 32*31)
	// Pages that are in no area.
	for _, l := range [][2]int{{4, 1}, {3, 2}, {0, 5}, {29, 5}, {0, 1024}} {
		r.protect(1, l[0], l[1], true)
		r.protect(1, l[0], l[1], false)
	}
	r.same()
	for _, write := range []bool{false, true, true, false, false, true} {
		r.protect(1, 0, 3, write)
		r.same()
		r.store(1, 0, 2)
		r.store(1, 33, 3)
		r.store(1, 32*3, 4)
		r.load(1, 64)
		r.store(1, 65, 5)
		r.protect(1, 31, 2, write)
		r.store(1, 32*31, 6)
		r.store(1, 32*32, 7)
		r.store(1, 32*33, 8)
		r.same()
	}
}

func TestProtectOfWhatIsShared(t *testing.T) { // P16.3, P16.6
	for _, who := range []int{1, 2} {
		for _, write := range []bool{true, false} {
			r := ten(t)
			r.close(2)
			r.store(1, 0, 1)
			r.load(1, 32*31+1)
			r.fork(1, 2)
			// What may be written to is copied ahead of it, even if it was told so behind the fork.
			r.protect(who, 0, 4, write)
			r.protect(who, 30, 4, write)
			r.same()
			for _, va := range []api.Word{0, 32*31 + 1} {
				r.store(who, va, 50)
				r.same()
				r.store(3-who, va, 60)
				r.same()
			}
			r.protect(who, 0, 2, !write)
			r.protect(who, 30, 4, !write)
			for _, va := range []api.Word{1, 32*31 + 2} {
				r.store(who, va, 70)
				r.same()
				r.store(3-who, va, 80)
				r.same()
			}
			// Each one has forgotten that there was another one.
			r.close(3 - who)
			r.store(who, 0, 90)
			r.protect(who, 0, 4, true)
			r.store(who, 0, 91)
			r.same()
		}
	}
}

func TestLoadAndStore(t *testing.T) { // P16.4
	r := ten(t)
	for _, va := range []api.Word{0, 1, 31, 32, 127, 128, 129, 1000, 959, 960, 32*34 - 1, 32 * 34, 32*1020 - 1, 32 * 1020, 0x7fff} {
		r.load(1, va)
		r.store(1, va, va*3+1)
		r.load(1, va)
		r.same()
		r.store(2, va, 5)
		r.load(2, va)
	}
	for _, va := range offWords {
		r.load(1, va)
		r.store(1, va, 9)
	}
	r.same()
	for _, w := range []api.Word{0, 1, 0x80000000, 0xffffffff} {
		r.store(1, 3, w)
		r.load(1, 3)
	}
	r.same()
}

func TestTouchIsCharged(t *testing.T) { // P16.4, P16.7
	for _, write := range []bool{false, true} {
		touch := func(r *rig, n int) {
			r.t.Helper()
			if write {
				r.store(1, api.Word(32*n+n%32), api.Word(n))
			} else {
				r.load(1, api.Word(32*n+n%32))
			}
		}
		for left := range 6 {
			r := rigged(t, 30)
			r.open(1)
			r.grow(1, 0, 1024, true)
			r.leave(1, left)
			// 2 for the first page of a table, 1 for another one there, nothing for one that is mapped.
			for _, n := range []int{33, 33, 32, 63, 31, 64, 33, 62, 0, 61, 1023} {
				touch(r, n)
				r.same()
			}
		}
	}
}

func TestFullIsLast(t *testing.T) { // P16.4: ErrFault, ErrPerm, ErrFull
	r := ten(t)
	r.leave(1, 0)
	for _, va := range []api.Word{0, 32 * 30, 32 * 1023, 128, 32 * 34, 0x8000} {
		r.load(1, va)
		r.store(1, va, 1)
		r.reach(1, va, 1, false)
		r.reach(1, va, 1024, true)
	}
	r.same()
	if _, err := r.s.Load(1, 0); err != api.ErrFull {
		t.Errorf("Load: %d, want ErrFull", err)
	}
	if err := r.s.Store(1, 32*30, 1); err != api.ErrPerm {
		t.Errorf("Store: %d, want ErrPerm", err)
	}
	// What is mapped needs no more; a copy neither.
	r.back()
	r.store(1, 0, 4)
	r.leave(1, 0)
	r.load(1, 0)
	r.store(1, 1, 5)
	r.same()
}

func TestCopyOfAFullOne(t *testing.T) { // P16.4, P16.7: a copy is charged nothing, and there is a frame for it
	r := rigged(t, 12)
	r.open(1)
	r.grow(1, 0, 8, true)
	for n := range 4 {
		r.store(1, api.Word(32*n), api.Word(n))
	}
	r.carve(2, 6)
	r.fork(1, 2)
	r.same()
	if r.b.Left(1) != 0 || r.b.Left(2) != 0 {
		t.Fatalf("Left: %d %d, want none", r.b.Left(1), r.b.Left(2))
	}
	for n := range 4 {
		r.store(1+n%2, api.Word(32*n+1), api.Word(50+n))
		r.same()
	}
	for n := range 4 {
		r.store(1, api.Word(32*n+2), api.Word(60+n))
		r.store(2, api.Word(32*n+2), api.Word(70+n))
		r.same()
	}
	if r.p.Left(1) != 0 {
		t.Errorf("%d frames are free, want none", r.p.Left(1))
	}
	r.load(1, 32*5)
	r.load(2, 32*5)
	r.same()
}

func TestReachOfWords(t *testing.T) { // P16.4: how many there may be
	r := ten(t)
	r.grow(1, 100, 100, true)
	for _, words := range []int{math.MinInt, math.MinInt + 1, -1 << 32, -1<<32 + 1, -1024, -1, 0, 1025, 1026, 2048, 65537, 1 << 31, 1 << 32, 1<<32 + 1, math.MaxInt - 1, math.MaxInt} {
		for _, write := range []bool{true, false} {
			// ErrArg goes ahead of ErrNone and ErrFault.
			for pid := range 5 {
				for _, va := range []api.Word{0, 32 * 100, 32 * 50, 0x7fff, 0x8000, 0xffffffff} {
					r.reach(pid, va, words, write)
				}
			}
		}
	}
	r.same()
	for _, words := range []int{1, 2, 31, 32, 33, 64, 65, 1023, 1024} {
		r.reach(1, 32*100, words, true)
		r.same()
		r.shrink(1, 100, 50)
		r.grow(1, 100, 50, true)
		r.reach(1, 32*100+31, words, false)
		r.same()
		r.shrink(1, 100, 50)
		r.grow(1, 100, 50, true)
	}
	r.same()
}

func TestReachIsAllOrNone(t *testing.T) { // P16.4
	for _, write := range []bool{true, false} {
		r := ten(t)
		r.grow(1, 4, 2, false)
		r.grow(1, 7, 1, true)
		// To the end of what may be written to, of what may be read, of the pages, and over them.
		for _, from := range []int{0, 31, 32, 100, 127, 128, 191, 192, 223, 224, 255, 256, 959, 960, 1087, 1088, 32 * 1019, 32*1020 - 1, 32 * 1020, 0x7ffe, 0x7fff, 0x8000} {
			for _, words := range []int{1, 2, 3, 28, 29, 32, 33, 64, 65, 92, 93, 97, 128, 129, 192, 193, 1024} {
				r.reach(1, api.Word(from), words, write)
			}
			r.same()
		}
		for _, va := range offWords {
			for _, words := range []int{1, 2, 31, 32, 33, 1024} {
				r.reach(1, va, words, write)
			}
		}
		r.same()
	}
}

func TestReachAsksInOrder(t *testing.T) { // P16.4: of all words, one behind the other
	r := rigged(t, 30)
	r.open(1)
	r.grow(1, 0, 1, true)
	r.grow(1, 1, 1, false)
	r.grow(1, 3, 1, false)
	r.grow(1, 5, 1, true)
	ask := func(from, words int, write bool, want api.Errno) {
		t.Helper()
		if err := r.s.Reach(1, api.Word(from), words, write); err != want {
			t.Errorf("Reach(1, %d, %d, %t): %d, want %d", from, words, write, err, want)
		}
		r.reach(1, api.Word(from), words, write)
		r.same()
	}
	r.leave(1, 0)
	ask(0, 33, true, api.ErrPerm)
	ask(0, 97, true, api.ErrPerm)
	ask(0, 97, false, api.ErrFault)
	ask(32, 33, true, api.ErrPerm)
	ask(32, 33, false, api.ErrFault)
	ask(64, 33, true, api.ErrFault)
	ask(64, 97, true, api.ErrFault)
	ask(96, 97, true, api.ErrPerm)
	ask(160, 33, true, api.ErrFault)
	ask(0, 64, false, api.ErrFull)
	ask(0, 32, true, api.ErrFull)
	ask(160, 32, true, api.ErrFull)
}

func TestReachIsFullTogether(t *testing.T) { // P16.4, P16.7
	// Six pages over the edge of a table, of which some are mapped already.
	for _, there := range [][]int{{}, {29}, {32}, {30, 31}, {28, 40}, {0, 33}, {29, 30, 31, 32, 33, 34}} {
		for _, write := range []bool{true, false} {
			for left := range 10 {
				r := rigged(t, 40)
				r.open(1)
				r.grow(1, 0, 100, true)
				for _, n := range there {
					r.load(1, api.Word(32*n))
				}
				r.leave(1, left)
				r.reach(1, 32*29+30, 4*32+3, write)
				r.same()
			}
		}
	}
}

func TestReachToWrite(t *testing.T) { // P16.4: pages that are shared may be written to, each one's own
	r := ten(t)
	r.close(2)
	for n := range 4 {
		r.store(1, api.Word(32*n+1), api.Word(n))
	}
	r.fork(1, 2)
	held := r.frees - r.p.Left(1)
	r.reach(2, 0, 128, false)
	if got := r.frees - r.p.Left(1); got != held {
		t.Errorf("to read, %d frames are held, it were %d", got, held)
	}
	r.same()
	r.reach(2, 40, 40, true)
	if got := r.frees - r.p.Left(1); got != held+2 {
		t.Errorf("to write, %d frames are held, want %d", got, held+2)
	}
	r.same()
	for n := range 4 {
		r.store(2, api.Word(32*n+2), 90)
		r.store(1, api.Word(32*n+3), 91)
		r.same()
	}
	// What is refused copies nothing.
	r.close(2)
	r.fork(1, 2)
	held = r.frees - r.p.Left(1)
	r.reach(2, 0, 129, true)
	r.reach(2, 0x7fff, 2, true)
	if got := r.frees - r.p.Left(1); got != held {
		t.Errorf("refused, %d frames are held, it were %d", got, held)
	}
	r.same()
}

func TestTheWalk(t *testing.T) { // P16.3, P16.4: what the tables say of a page is what may be done with it now
	r := rigged(t, 40)
	// The first frame that is handed out is the root of 1.
	r.open(1)
	r.carve(2, 15)
	r.grow(1, 0, 2, true)
	r.grow(1, 2, 2, false)
	finds := func(page int, want api.Fault) {
		t.Helper()
		for place := range api.Word(32) {
			if _, _, f := walk.At(r.m, 10, api.Word(32*page)+place, true); f != want {
				t.Fatalf("At of the page %d to write: %d, want %d", page, f, want)
			}
		}
	}
	finds(0, api.FtTable)
	r.load(1, 0)
	finds(0, api.FtNone)
	finds(1, api.FtPage)
	r.reach(1, 32, 96, false)
	finds(1, api.FtNone)
	finds(2, api.FtWrite)
	finds(3, api.FtWrite)
	r.protect(1, 1, 2, false)
	finds(1, api.FtWrite)
	r.protect(1, 1, 2, true)
	finds(1, api.FtNone)
	finds(2, api.FtNone)
	r.fork(1, 2)
	for n := range 3 {
		finds(n, api.FtCow)
	}
	finds(3, api.FtWrite)
	// What is copied may be written to, and what is nobody else's any more, once it is reached to write.
	r.store(1, 0, 1)
	finds(0, api.FtNone)
	r.reach(1, 32, 64, false)
	finds(1, api.FtCow)
	r.store(2, 32, 1)
	finds(1, api.FtCow)
	r.reach(1, 32, 64, true)
	finds(1, api.FtNone)
	finds(2, api.FtNone)
	r.protect(1, 3, 1, true)
	finds(3, api.FtCow)
	r.protect(1, 3, 1, false)
	r.close(2)
	r.protect(1, 3, 1, true)
	finds(3, api.FtNone)
	r.shrink(1, 0, 1)
	finds(0, api.FtPage)
	r.shrink(1, 1, 3)
	finds(1, api.FtTable)
	r.same()
}

func TestAnswersAreNew(t *testing.T) { // P16.5
	r := ten(t)
	r.load(1, 0)
	r.load(1, 33)
	r.close(2)
	r.fork(1, 2)
	for pid := 1; pid <= 2; pid++ {
		areas, mapped := r.s.Areas(pid), r.s.Mapped(pid)
		areas[0], mapped[0] = api.Area{From: 500, Many: 1}, 77
		_ = append(areas[:1], make([]api.Area, cap(areas)-1)...)
		_ = append(mapped[:1], make([]int, cap(mapped)-1)...)
		r.same()
	}
	// What was told stays when it is another way.
	areas, mapped := r.s.Areas(1), r.s.Mapped(1)
	wasAreas, wasMapped := slices.Clone(areas), slices.Clone(mapped)
	r.shrink(1, 0, 1)
	r.protect(1, 2, 1, false)
	r.load(1, 64)
	r.close(2)
	if !slices.Equal(areas, wasAreas) || !slices.Equal(mapped, wasMapped) {
		t.Errorf("what was told: %v %v, it was %v %v", areas, mapped, wasAreas, wasMapped)
	}
}

func TestMappedOfAll(t *testing.T) { // P16.4, P16.5, P16.6: each page of a space, each word
	m, p := over(t, 1024, api.Range{From: 0, Many: 1024})
	s, err := space.New(m, p, 0, containers(t, 1024))
	if err != api.OK {
		t.Fatalf("New: %d", err)
	}
	s.Open(1)
	s.Grow(1, api.Area{From: 0, Many: 1024, Write: true})
	// 990 pages, in an order that is not theirs: 1 and 32 tables are 1023.
	var want []int
	for i := range 990 {
		n := (i*389 + 7) % 1024
		want = append(want, n)
		for place := range 32 {
			if err := s.Store(1, api.Word(32*n+place), api.Word(100*n+place)); err != api.OK {
				t.Fatalf("Store into the page %d: %d", n, err)
			}
		}
	}
	slices.Sort(want)
	if l := s.Mapped(1); !slices.Equal(l, want) {
		t.Errorf("Mapped: %v", l)
	}
	for _, n := range want {
		for place := range 32 {
			if w, err := s.Load(1, api.Word(32*n+place)); w != api.Word(100*n+place) || err != api.OK {
				t.Fatalf("Load of the page %d, the place %d: %d %d", n, place, w, err)
			}
		}
	}
	if p.Left(0) != 1 {
		t.Errorf("%d frames are free, want 1", p.Left(0))
	}
	for i := 990; i < 992; i++ {
		want := api.OK
		if i > 990 {
			want = api.ErrFull
		}
		if _, err := s.Load(1, api.Word(32*((i*389+7)%1024))); err != want {
			t.Errorf("the page %d: %d, want %d", i, err, want)
		}
	}
	if err := s.Shrink(1, 0, 1024); err != api.OK || p.Left(0) != 1023 {
		t.Errorf("Shrink: %d, %d are free", err, p.Left(0))
	}
}

// step does something, of which most may be done; few pages, in few tables, so that they meet.
func (r *rig) step(x *random) {
	r.t.Helper()
	pid, other := 1+x.below(5), 1+x.below(5)
	if x.below(40) == 0 {
		pid = pick(x, offPids)
	}
	from, many := pick(x, []int{0, 1, 2, 30, 31, 32, 33, 1022, 1023}), 1+x.below(3)
	if x.below(40) == 0 {
		l := pick(x, offPages)
		from, many = l[0], l[1]
	}
	va := api.Word(32*pick(x, []int{0, 1, 2, 3, 30, 31, 32, 33, 34, 1021, 1022, 1023}) + x.below(32))
	if x.below(40) == 0 {
		va = pick(x, offWords)
	}
	words := 1 + x.below(100)
	if x.below(40) == 0 {
		words = pick(x, []int{-1, 0, 1024, 1025, math.MaxInt})
	}
	write := x.below(3) > 0
	switch x.below(24) {
	case 0:
		r.open(pid)
	case 1:
		r.close(pid)
	case 2, 3, 4:
		r.fork(pid, other)
	case 5, 6, 7, 8:
		r.grow(pid, from, many, write)
	case 9:
		r.shrink(pid, from, many)
	case 10, 11:
		r.protect(pid, from, many, write)
	case 12, 13:
		r.load(pid, va)
	case 14, 15:
		r.reach(pid, va, words, write)
	case 16:
		r.containers(x, other)
	default:
		r.store(pid, va, api.Word(x.below(1<<24)))
	}
}

// containers opens a container, or closes it, if nothing is charged.
func (r *rig) containers(x *random, id int) {
	if r.isContainer(id) {
		r.b.Close(id)
		return
	}
	r.b.Open(id, 1+x.below(5), x.below(14))
}

func TestRowsOfSteps(t *testing.T) { // P16.1 to P16.7
	for _, quota := range []int{0, 1, 2, 3, 4, 5, 8, 12, 16, 20, 30, 40, 60, 100} {
		for seed := range 6 {
			r, x := rigged(t, quota), random(1000*quota+seed)
			for at := range 700 {
				r.step(&x)
				if at%8 == 0 {
					r.same()
				}
			}
			r.same()
			for pid := 1; pid <= 5; pid++ {
				r.close(pid)
			}
			r.same()
			if r.p.Left(1) != r.frees {
				t.Fatalf("the quota %d, the row %d: %d frames are free behind all, it were %d", quota, seed, r.p.Left(1), r.frees)
			}
		}
	}
}

func TestShortRows(t *testing.T) { // P16.2 to P16.7: all rows of four of these steps, behind a fork
	steps := []func(r *rig){
		func(r *rig) { r.store(1, 5, 10) },
		func(r *rig) { r.store(2, 5, 20) },
		func(r *rig) { r.protect(1, 0, 1, false) },
		func(r *rig) { r.protect(2, 0, 1, true) },
		func(r *rig) { r.fork(2, 3) },
		func(r *rig) { r.store(3, 5, 30) },
		func(r *rig) { r.close(2) },
		func(r *rig) { r.shrink(1, 0, 1) },
		func(r *rig) { r.grow(1, 0, 1, true) },
		func(r *rig) { r.fork(1, 2) },
	}
	many := len(steps)
	for i := range many * many * many * many {
		r := rigged(t, 12)
		r.open(1)
		r.grow(1, 0, 1, true)
		r.store(1, 5, 1)
		r.carve(2, 3)
		r.carve(3, 3)
		r.fork(1, 2)
		for ; i > 0; i /= many {
			steps[i%many](r)
		}
		r.same()
	}
}

func TestItIsFixed(t *testing.T) { // the same calls have the same answers, down to the memory's words
	for seed := range 5 {
		a, b := rigged(t, 30), rigged(t, 30)
		x, y := random(seed), random(seed)
		for range 500 {
			a.step(&x)
			b.step(&y)
		}
		for f := range a.m.Frames() {
			l, _ := a.m.Page(f)
			k, _ := b.m.Page(f)
			if !slices.Equal(l, k) || a.p.Refs(f) != b.p.Refs(f) {
				t.Fatalf("the frame %d: %v %d, %v %d", f, l, a.p.Refs(f), k, b.p.Refs(f))
			}
		}
	}
}

func TestSpacesAreApart(t *testing.T) { // P16.6, P16.7: of two partitions
	m, p := over(t, 40, api.Range{From: 0, Many: 20}, api.Range{From: 20, Many: 20})
	var all []*space.Spaces
	for part := range 2 {
		s, err := space.New(m, p, part, containers(t, 20))
		if err != api.OK {
			t.Fatalf("New: %d", err)
		}
		all = append(all, s)
	}
	for i, s := range all {
		if err := s.Open(1); err != api.OK {
			t.Errorf("Open by %d: %d", i, err)
		}
		if err := s.Grow(1, api.Area{From: 0, Many: 4, Write: true}); err != api.OK {
			t.Errorf("Grow by %d: %d", i, err)
		}
	}
	for i, s := range all {
		if err := s.Store(1, 33, api.Word(7+i)); err != api.OK {
			t.Errorf("Store by %d: %d", i, err)
		}
		s.Load(1, api.Word(64*i))
	}
	for i, s := range all {
		if w, err := s.Load(1, 33); w != api.Word(7+i) || err != api.OK {
			t.Errorf("Load by %d: %d %d", i, w, err)
		}
		if p.Left(i) != 16 {
			t.Errorf("%d frames are free of %d, want 16", p.Left(i), i)
		}
	}
	all[0].Close(1)
	if w, err := all[1].Load(1, 33); w != 8 || err != api.OK || p.Left(0) != 20 || p.Left(1) != 16 {
		t.Errorf("behind the other one's end: %d %d, %d %d are free", w, err, p.Left(0), p.Left(1))
	}
}

// all asks everything, whatever is answered: it has only to end.
func all(s *space.Spaces, x *random) {
	pid, va := 1+x.below(4), api.Word(32*x.below(70)+x.below(32))
	switch x.below(10) {
	case 0:
		s.Open(pid)
	case 1:
		s.Close(pid)
	case 2:
		s.Fork(pid, 1+x.below(4))
	case 3:
		s.Grow(pid, api.Area{From: x.below(64), Many: 1 + x.below(9), Write: x.below(2) == 0})
	case 4:
		s.Shrink(pid, x.below(64), 1+x.below(3))
	case 5:
		s.Protect(pid, x.below(64), 1+x.below(3), x.below(2) == 0)
	case 6:
		s.Load(pid, va)
	case 7:
		s.Reach(pid, va, 1+x.below(200), x.below(2) == 0)
	default:
		s.Store(pid, va, va)
	}
	s.Mapped(pid)
	s.Areas(pid)
}

func TestOthersInTheWay(t *testing.T) { // nothing panics, whatever others do with the memory, the frames, the containers
	words := []api.Word{0, 1, 3, 5, 7, 0x101, 0xa01, 0xb03, 0xc05, 0x3f01, 0x4001, 0x3ff01, 0x40001, math.MaxUint32}
	x := random(5)
	for range 40 {
		m, p := over(t, 40, api.Range{From: 0, Many: 4}, api.Range{From: 4, Many: 30})
		b := containers(t, 30)
		s, _ := space.New(m, p, 1, b)
		for range 300 {
			all(s, &x)
			switch x.below(8) {
			case 0:
				m.Write(x.below(40), x.below(32), pick(&x, words))
			case 1:
				p.Alloc(1)
			case 2:
				p.Free(4 + x.below(30))
			case 3:
				b.Open(1+x.below(4), 1, x.below(8))
			case 4:
				b.Charge(1+x.below(4), x.below(3))
			case 5:
				b.Refund(1+x.below(4), x.below(3))
			}
		}
	}
	// A pool over another memory.
	for range 20 {
		_, p := over(t, 40, api.Range{From: 0, Many: 40})
		m, _ := mem.New(1 + x.below(40))
		s, _ := space.New(m, p, 0, containers(t, 30))
		for range 300 {
			all(s, &x)
		}
	}
}

func TestExamples(t *testing.T) {
	// The chapter's budget of 10 has 2 left for the container 3; one of 11 has the 3 that it names.
	for _, quota := range []int{10, 11} {
		r := rigged(t, quota)
		used := func(want int) {
			t.Helper()
			if n := r.b.All()[0]; n.Used != want {
				t.Errorf("charged %d, want %d", n.Used, want)
			}
		}
		answers := func(err, want api.Errno) {
			t.Helper()
			if err != want {
				t.Errorf("error %d, want %d", err, want)
			}
		}
		loads := func(pid int, va, want api.Word) {
			t.Helper()
			if w, err := r.s.Load(pid, va); w != want || err != api.OK {
				t.Errorf("Load(%d, %d): %d %d, want %d", pid, va, w, err, want)
			}
		}
		answers(r.s.Open(1), api.OK)
		answers(r.s.Grow(1, api.Area{From: 0, Many: 2, Write: true}), api.OK)
		answers(r.s.Store(1, 33, 7), api.OK)
		used(3)
		loads(1, 0, 0)
		used(4)
		_, err := r.s.Load(1, 64)
		answers(err, api.ErrFault)
		answers(r.b.Open(2, 1, 4), api.OK)
		answers(r.s.Fork(1, 2), api.OK)
		answers(r.s.Store(2, 33, 8), api.OK)
		loads(1, 33, 7)
		loads(2, 33, 8)
		answers(r.b.Open(3, 1, quota-8), api.OK)
		answers(r.s.Fork(1, 3), api.ErrFull)
	}
}
