package ptable_test

import (
	"math"
	"slices"
	"testing"

	"priory/api"
	"priory/mem"
	"priory/palloc"
	"priory/ptable"
	"priory/walk"
	"priory/word"
)

// off are numbers that are no frame's, no page's and no partition's.
var off = []int{math.MinInt, math.MinInt + 7, -1 << 32, -1<<32 + 7, -1025, -1024, -33, -32, -8, -2, -1, 1024, 1025, 1031, 1 << 15, math.MaxInt32, 1 << 32, 1<<32 + 7, math.MaxInt - 1, math.MaxInt}

// wrong are entries that no page may have in a memory of 64 frames.
var wrong = []api.Entry{
	{},
	{Frame: 3},
	{Write: true},
	{Cow: true},
	{Write: true, Frame: 3},
	{Cow: true, Frame: 3},
	{Present: true, Write: true, Cow: true},
	{Present: true, Write: true, Cow: true, Frame: 3},
	{Present: true, Frame: -1},
	{Present: true, Frame: 64},
	{Present: true, Write: true, Frame: 65},
	{Present: true, Cow: true, Frame: 1023},
	{Present: true, Frame: 1024},
	{Present: true, Frame: 1 << 24},
	{Present: true, Frame: 1 << 32},
	{Present: true, Frame: math.MaxInt},
	{Present: true, Frame: math.MinInt},
	{Present: true, Frame: math.MinInt + 3},
}

// random is a row of numbers that is always the same.
type random uint32

// below tells the next number, which is below n.
func (r *random) below(n int) int {
	*r = *r*1664525 + 1013904223
	return int(*r>>8) % n
}

// entry is one that a page may have: any of the three kinds.
func (r *random) entry(frames int) api.Entry {
	e := api.Entry{Present: true, Frame: r.below(frames)}
	switch r.below(3) {
	case 0:
		e.Write = true
	case 1:
		e.Cow = true
	}
	return e
}

// plain is the entry of a frame that may be written to.
func plain(frame int) api.Entry { return api.Entry{Present: true, Write: true, Frame: frame} }

// space is the entries of a root's pages, zero of one that is not mapped.
type space [1024]api.Entry

// tables tells how many frames a space takes.
func (s *space) tables() int {
	many := 1
	for from := 0; from < 1024; from += 32 {
		if slices.ContainsFunc(s[from:from+32], func(e api.Entry) bool { return e.Present }) {
			many++
		}
	}
	return many
}

// all tells the mappings.
func (s *space) all() []api.Mapping {
	var l []api.Mapping
	for page, e := range s {
		if e.Present {
			l = append(l, api.Mapping{Page: page, E: e})
		}
	}
	return l
}

// rig is a manager, what it works over, and what should be there: the spaces, and how often others hold a frame.
type rig struct {
	t      *testing.T
	m      *mem.Mem
	p      *palloc.Pool
	of     api.Range
	part   int
	man    *ptable.Manager
	spaces map[int]*space
	others map[int]int
	words  [][]api.Word
	tables []bool
}

// over is a pool of a memory of so many frames, all of whose words differ and are no entry's.
func over(t *testing.T, frames int, l ...api.Range) (*mem.Mem, *palloc.Pool) {
	t.Helper()
	m, err := mem.New(frames)
	if err != api.OK {
		t.Fatalf("mem.New(%d): %d", frames, err)
	}
	for f := range frames {
		for p := range 32 {
			m.Write(f, p, 0x80000000|api.Word(32*f+p))
		}
	}
	p, err := palloc.New(m, l)
	if err != api.OK {
		t.Fatalf("palloc.New(%v): %d", l, err)
	}
	return m, p
}

// rigged is a manager of the middle one of three partitions, which has so many frames of 64, from 10 on.
func rigged(t *testing.T, many int) *rig {
	t.Helper()
	l := []api.Range{{From: 0, Many: 10}, {From: 10, Many: many}, {From: 10 + many, Many: 4}}
	m, p := over(t, 64, l...)
	man, err := ptable.New(m, p, 1)
	if man == nil || err != api.OK {
		t.Fatalf("New: %v %d", man, err)
	}
	r := &rig{t: t, m: m, p: p, of: l[1], part: 1, man: man, spaces: map[int]*space{}, others: map[int]int{}}
	r.words, r.tables = r.seen()
	return r
}

// roots tells the spaces, rising.
func (r *rig) roots() []int {
	var l []int
	for f := range r.m.Frames() {
		if r.spaces[f] != nil {
			l = append(l, f)
		}
	}
	return l
}

// seen tells the memory's words, and which frames are tables: the roots, and those that their words name.
func (r *rig) seen() ([][]api.Word, []bool) {
	r.t.Helper()
	words, tables := make([][]api.Word, r.m.Frames()), make([]bool, r.m.Frames())
	for f := range words {
		words[f], _ = r.m.Page(f)
	}
	for _, root := range r.roots() {
		tables[root] = true
		for _, w := range words[root] {
			e, err := word.Get(w)
			switch {
			case err != api.OK || e.Present && tables[e.Frame]:
				r.t.Fatalf("the root %d has the word %#x", root, w)
			case e.Present:
				tables[e.Frame] = true
			}
		}
	}
	return words, tables
}

// left tells how many frames of the partition should be free.
func (r *rig) left() int {
	many := r.of.Many - len(r.others)
	for _, s := range r.spaces {
		many -= s.tables()
	}
	return many
}

// take is a frame of the partition that somebody else is handed.
func (r *rig) take() int {
	r.t.Helper()
	f, err := r.p.Alloc(r.part)
	if err != api.OK {
		r.t.Fatalf("Alloc: %d", err)
	}
	r.words[f] = make([]api.Word, 32)
	r.others[f] = 1
	return f
}

// back is take's end.
func (r *rig) back(frame int) {
	r.t.Helper()
	if err := r.p.Free(frame); err != api.OK {
		r.t.Fatalf("Free(%d): %d", frame, err)
	}
	delete(r.others, frame)
}

// open asks for a space: the least free frame, all of whose words are 0.
func (r *rig) open() int {
	r.t.Helper()
	want := r.of.From
	for r.p.Refs(want) > 0 {
		want++
	}
	root, err := r.man.Open()
	if root != want || err != api.OK {
		r.t.Fatalf("Open: %d %d, want %d", root, err, want)
	}
	r.spaces[root] = &space{}
	return root
}

// close asks for a space's end, and holds the answer against what should be said.
func (r *rig) close(root int) {
	r.t.Helper()
	s, want := r.spaces[root], api.OK
	switch {
	case s == nil:
		want = api.ErrNone
	case s.tables() > 1:
		want = api.ErrState
	default:
		delete(r.spaces, root)
	}
	if err := r.man.Close(root); err != want {
		r.t.Fatalf("Close(%d): %d, want %d", root, err, want)
	}
}

// may tells what Map and Set ask first.
func (r *rig) may(root, page int, e api.Entry) api.Errno {
	switch {
	case page < 0 || page > 1023 || slices.Contains(wrong, e):
		return api.ErrArg
	case r.spaces[root] == nil:
		return api.ErrNone
	}
	return api.OK
}

// put asks Map for a page, and holds the answer against what should be said.
func (r *rig) put(root, page int, e api.Entry) {
	r.t.Helper()
	want, left := r.may(root, page, e), r.left()
	if want == api.OK {
		s := r.spaces[root]
		old, had := s[page], s.tables()
		s[page] = e
		if old.Present {
			s[page], want = old, api.ErrThere
		} else if s.tables()-had > left {
			s[page], want = old, api.ErrFull
		}
	}
	if err := r.man.Map(root, page, e); err != want {
		r.t.Fatalf("Map(%d, %d, %+v): %d, want %d", root, page, e, err, want)
	}
}

// set asks Set likewise.
func (r *rig) set(root, page int, e api.Entry) {
	r.t.Helper()
	want := r.may(root, page, e)
	if want == api.OK {
		if s := r.spaces[root]; s[page].Present {
			s[page] = e
		} else {
			want = api.ErrNone
		}
	}
	if err := r.man.Set(root, page, e); err != want {
		r.t.Fatalf("Set(%d, %d, %+v): %d, want %d", root, page, e, err, want)
	}
}

// drop asks Unmap likewise.
func (r *rig) drop(root, page int) {
	r.t.Helper()
	e, want := api.Entry{}, r.may(root, page, plain(0))
	if want == api.OK {
		s := r.spaces[root]
		if e, s[page] = s[page], e; !e.Present {
			want = api.ErrNone
		}
	}
	if got, err := r.man.Unmap(root, page); got != e || err != want {
		r.t.Fatalf("Unmap(%d, %d): %+v %d, want %+v %d", root, page, got, err, e, want)
	}
}

// asked asks all three for a page.
func (r *rig) asked(root, page int, e api.Entry) {
	r.t.Helper()
	r.put(root, page, e)
	r.set(root, page, e)
	r.drop(root, page)
}

// same holds all that is told, the walk, the memory and the pool against what should be there.
func (r *rig) same() {
	r.t.Helper()
	for _, root := range append([]int{0, 5, 10, 11, 12, 13, 40, 63}, off...) {
		if r.spaces[root] == nil {
			r.none(root)
		}
	}
	for _, root := range r.roots() {
		r.told(root, r.spaces[root])
		for page, e := range r.spaces[root] {
			r.walked(root, page, e)
		}
	}
	r.held()
}

// none holds against it that a number is no space's.
func (r *rig) none(root int) {
	r.t.Helper()
	if l, many := r.man.All(root), r.man.Tables(root); len(l) != 0 || many != 0 {
		r.t.Fatalf("All and Tables of %d, which is no space: %v %d", root, l, many)
	}
	for _, page := range []int{-1, 0, 33, 1023, 1024} {
		if e, ok := r.man.Query(root, page); e != (api.Entry{}) || ok {
			r.t.Fatalf("Query(%d, %d) of no space: %+v %t", root, page, e, ok)
		}
	}
}

// told holds what the manager tells of a space against its model.
func (r *rig) told(root int, s *space) {
	r.t.Helper()
	if got, want := r.man.All(root), s.all(); !slices.Equal(got, want) {
		r.t.Fatalf("All(%d): %v, want %v", root, got, want)
	}
	if got, want := r.man.Tables(root), s.tables(); got != want {
		r.t.Fatalf("Tables(%d): %d, want %d", root, got, want)
	}
	for page, e := range s {
		if got, ok := r.man.Query(root, page); got != e || ok != e.Present {
			r.t.Fatalf("Query(%d, %d): %+v %t, want %+v", root, page, got, ok, e)
		}
	}
	for _, page := range off {
		if e, ok := r.man.Query(root, page); e != (api.Entry{}) || ok {
			r.t.Fatalf("Query(%d, %d): %+v %t", root, page, e, ok)
		}
	}
}

// walked holds the walk for a page against its entry.
func (r *rig) walked(root, page int, e api.Entry) {
	r.t.Helper()
	place := (7*page + 3) % 32
	va := api.Word(32*page + place)
	for _, writes := range []bool{false, true} {
		f, p, ft := walk.At(r.m, root, va, writes)
		want := api.FtNone
		switch {
		case !e.Present:
			if ft != api.FtTable && ft != api.FtPage {
				r.t.Fatalf("At(%d, %#x, %t) of what is not mapped: %d %d %d", root, va, writes, f, p, ft)
			}
			continue
		case writes && e.Cow:
			want = api.FtCow
		case writes && !e.Write:
			want = api.FtWrite
		}
		if ft != want || ft == api.FtNone && (f != e.Frame || p != place) {
			r.t.Fatalf("At(%d, %#x, %t): %d %d %d, of %+v", root, va, writes, f, p, ft, e)
		}
	}
}

// held holds the pool's frames, and the words of those that are no tables, against what should be there.
func (r *rig) held() {
	r.t.Helper()
	words, tables := r.seen()
	for f := range words {
		want := r.others[f]
		if tables[f] {
			want++
		}
		if refs := r.p.Refs(f); refs != want {
			r.t.Fatalf("Refs(%d): %d, want %d; tables %v", f, refs, want, tables)
		}
		// One that was a table meanwhile has words of 0.
		was := f >= r.of.From && f < r.of.From+r.of.Many && want == 0 && slices.Max(words[f]) == 0
		if !tables[f] && !was && !slices.Equal(words[f], r.words[f]) {
			r.t.Fatalf("words of the frame %d, which is no table: %v, want %v", f, words[f], r.words[f])
		}
	}
	for part, want := range []int{10, r.left(), 4} {
		if left := r.p.Left(part); left != want {
			r.t.Fatalf("Left(%d): %d, want %d", part, left, want)
		}
	}
	r.words, r.tables = words, tables
}

func TestNew(t *testing.T) { // P10.1
	var l []api.Range
	// The first one has the last frame alone, and so on down.
	for part := range 8 {
		many := 1 + 99*(part%2)
		l = append(l, api.Range{From: 128*(8-part) - many, Many: many})
	}
	for many := 1; many <= 8; many++ {
		m, p := over(t, 1024, l[:many]...)
		before := p.Left(0)
		for part := range many {
			man, err := ptable.New(m, p, part)
			if man == nil || err != api.OK {
				t.Fatalf("New of %d in %d: %v %d", part, many, man, err)
			}
			for _, x := range l[:many] {
				if l, n := man.All(x.From), man.Tables(x.From); len(l) != 0 || n != 0 {
					t.Fatalf("a new manager has a space: %v %d", l, n)
				}
			}
			if root, err := man.Open(); root != l[part].From || err != api.OK {
				t.Fatalf("Open of %d in %d: %d %d", part, many, root, err)
			}
		}
		for _, part := range append([]int{many, many + 1, 8}, off...) {
			if man, err := ptable.New(m, p, part); man != nil || err != api.ErrArg {
				t.Errorf("New of %d in %d: %v %d, want ErrArg", part, many, man, err)
			}
		}
		if left := p.Left(0); left != before-1 {
			t.Errorf("Left: %d, of %d one was opened", left, before)
		}
	}
}

func TestNewChangesNothing(t *testing.T) { // P10.1
	r := rigged(t, 3)
	for part := -1; part < 4; part++ {
		ptable.New(r.m, r.p, part)
	}
	r.same()
	// A partition of which all is held is one, too.
	for range 3 {
		r.take()
	}
	man, err := ptable.New(r.m, r.p, 1)
	if man == nil || err != api.OK {
		t.Fatalf("New of a partition that is full: %v %d", man, err)
	}
	if root, err := man.Open(); root != 0 || err != api.ErrFull {
		t.Errorf("Open: %d %d, want ErrFull", root, err)
	}
	r.same()
}

func TestNewOfNothing(t *testing.T) { // P10.1
	m, p := over(t, 8, api.Range{From: 0, Many: 8})
	noMem, _ := mem.New(0)
	noPool, _ := palloc.New(m, nil)
	// ErrNil goes ahead of ErrArg.
	for _, part := range append([]int{0, 1}, off...) {
		for _, none := range []*mem.Mem{nil, noMem, {}} {
			if man, err := ptable.New(none, p, part); man != nil || err != api.ErrNil {
				t.Errorf("New without a memory, of %d: %v %d, want ErrNil", part, man, err)
			}
		}
		for _, none := range []*palloc.Pool{nil, noPool, {}} {
			if man, err := ptable.New(m, none, part); man != nil || err != api.ErrNil {
				t.Errorf("New without a pool, of %d: %v %d, want ErrNil", part, man, err)
			}
		}
		if man, err := ptable.New(nil, nil, part); man != nil || err != api.ErrNil {
			t.Errorf("New of nothing, of %d: %v %d, want ErrNil", part, man, err)
		}
	}
}

func TestNoManager(t *testing.T) { // P10.1, P10.2, P10.3
	m, p := over(t, 8, api.Range{From: 0, Many: 8})
	refused, _ := ptable.New(m, p, 1)
	answers := func(what string, err api.Errno) {
		t.Helper()
		if err != api.ErrNil {
			t.Errorf("%s: %d, want ErrNil", what, err)
		}
	}
	for _, man := range []*ptable.Manager{nil, refused, {}, new(ptable.Manager)} {
		root, err := man.Open()
		answers("Open", err)
		if root != 0 {
			t.Errorf("Open: %d", root)
		}
		// ErrNil goes ahead of ErrArg and ErrNone.
		for _, n := range append([]int{0, 1}, off...) {
			answers("Close", man.Close(n))
			for _, e := range append([]api.Entry{plain(1)}, wrong...) {
				answers("Map", man.Map(n, n, e))
				answers("Set", man.Set(n, n, e))
			}
			e, err := man.Unmap(n, n)
			answers("Unmap", err)
			q, ok := man.Query(n, n)
			if e != (api.Entry{}) || q != (api.Entry{}) || ok || len(man.All(n)) != 0 || man.Tables(n) != 0 {
				t.Errorf("of no manager: %+v %+v %t %v %d", e, q, ok, man.All(n), man.Tables(n))
			}
		}
	}
}

func TestOpenToTheEnd(t *testing.T) { // P10.1
	r := rigged(t, 6)
	r.take()
	for range 5 {
		r.open()
		r.same()
	}
	for range 2 {
		if root, err := r.man.Open(); root != 0 || err != api.ErrFull {
			t.Errorf("Open: %d %d, want ErrFull", root, err)
		}
		r.same()
	}
	// What is closed is opened again.
	for _, root := range []int{14, 11, 15} {
		r.close(root)
		r.same()
	}
	for range 3 {
		r.open()
		r.same()
	}
}

func TestOpenOfWordsThatWereThere(t *testing.T) { // P10.1
	r := rigged(t, 4)
	f := r.take()
	for p := range 32 {
		r.m.Write(f, p, 0xd01)
	}
	r.back(f)
	r.open()
	r.same()
}

func TestClose(t *testing.T) { // P10.1
	r := rigged(t, 8)
	a, b := r.open(), r.open()
	r.put(a, 40, plain(50))
	r.put(a, 1000, plain(51))
	held := r.take()
	r.same()
	// Neither tables, nor what others hold, nor what is free, nor other partitions' frames are spaces.
	for _, n := range append([]int{0, 9, 12, 13, held, 15, 17, 18, 63}, off...) {
		r.close(n)
		r.same()
	}
	r.close(a)
	r.same()
	r.drop(a, 40)
	r.close(a)
	r.same()
	r.drop(a, 1000)
	r.close(a)
	r.same()
	r.close(a)
	r.close(b)
	r.same()
	r.close(b)
	r.same()
	if left := r.p.Left(1); left != 7 {
		t.Errorf("Left: %d, want all but one", left)
	}
}

func TestClosedIsNone(t *testing.T) { // P10.1, P10.2
	r := rigged(t, 8)
	a, b := r.open(), r.open()
	r.close(a)
	refused := func() {
		t.Helper()
		r.close(a)
		r.asked(a, 0, plain(50))
		r.same()
	}
	refused()
	// The frame is another space's table now.
	r.put(b, 0, plain(50))
	r.same()
	if !r.tables[a] {
		t.Fatalf("the table is not the least free frame, %d", a)
	}
	refused()
	r.drop(b, 0)
	// It is somebody else's.
	if f := r.take(); f != a {
		t.Fatalf("Alloc: %d, want %d", f, a)
	}
	refused()
	r.back(a)
	// It is a space again, a new one.
	if root := r.open(); root != a {
		t.Fatalf("Open: %d, want %d", root, a)
	}
	r.same()
	r.put(a, 0, plain(50))
	r.same()
}

func TestPagesThatThereAreNot(t *testing.T) { // P10.2, P10.3
	r := rigged(t, 8)
	root := r.open()
	for page := range 64 {
		r.put(root, page, plain(page))
	}
	for _, page := range off {
		// ErrArg goes ahead of ErrNone.
		for _, of := range []int{root, 17, -1} {
			r.asked(of, page, plain(50))
		}
	}
	r.same()
}

func TestEntriesThatMayNotBe(t *testing.T) { // P10.2
	r := rigged(t, 8)
	root := r.open()
	r.put(root, 7, plain(50))
	for _, e := range wrong {
		// ErrArg goes ahead of ErrNone and ErrThere, whether the page is mapped or not.
		for _, of := range []int{root, 17, -1} {
			for _, page := range []int{6, 7, 33, -1} {
				r.put(of, page, e)
				r.set(of, page, e)
			}
		}
	}
	r.same()
}

func TestEntriesThatMayBe(t *testing.T) { // P10.2, P10.4
	r := rigged(t, 8)
	root := r.open()
	page := 0
	// Frames of others, tables and the root itself are frames, too; whether somebody holds them is not asked.
	for _, f := range []int{0, 1, 9, root, root + 1, 12, 17, 18, 21, 40, 63} {
		for _, e := range []api.Entry{plain(f), {Present: true, Frame: f}, {Present: true, Cow: true, Frame: f}} {
			r.put(root, page, e)
			r.set(root, 0, e)
			page += 5
		}
		r.same()
	}
}

func TestTheLastFrame(t *testing.T) { // P10.2
	for _, frames := range []int{2, 33, 1023, 1024} {
		m, p := over(t, frames, api.Range{From: 0, Many: 2})
		man, err := ptable.New(m, p, 0)
		if err != api.OK {
			t.Fatalf("New: %d", err)
		}
		root, _ := man.Open()
		if err := man.Map(root, 5, plain(frames)); err != api.ErrArg {
			t.Errorf("Map of the frame %d of %d: %d, want ErrArg", frames, frames, err)
		}
		if err := man.Map(root, 5, plain(frames-1)); err != api.OK {
			t.Errorf("Map of the frame %d of %d: %d", frames-1, frames, err)
		}
		if err := man.Set(root, 5, plain(frames)); err != api.ErrArg {
			t.Errorf("Set of the frame %d of %d: %d, want ErrArg", frames, frames, err)
		}
		if e, ok := man.Query(root, 5); e != plain(frames-1) || !ok {
			t.Errorf("Query: %+v %t", e, ok)
		}
	}
}

func TestRootsThatThereAreNot(t *testing.T) { // P10.2, P10.3
	r := rigged(t, 8)
	root := r.open()
	r.put(root, 33, plain(50))
	table, held := root+1, r.take()
	for _, n := range append([]int{0, 9, table, held, held + 1, 17, 18, 63}, off...) {
		for _, page := range []int{0, 1, 32, 33, 1023} {
			r.asked(n, page, plain(50))
		}
	}
	r.same()
}

func TestThere(t *testing.T) { // P10.2
	r := rigged(t, 4)
	root := r.open()
	for _, page := range []int{33, 34, 1023} {
		r.put(root, page, api.Entry{Present: true, Cow: true, Frame: 50})
		r.put(root, page, api.Entry{Present: true, Cow: true, Frame: 50})
		r.put(root, page, plain(51))
		r.same()
	}
	// ErrThere goes ahead of ErrFull; ErrNone, too.
	r.take()
	r.put(root, 33, plain(51))
	r.put(0, 33, plain(51))
	r.put(root, 64, plain(51))
	r.same()
	// It may be mapped again once it is not.
	r.drop(root, 33)
	r.put(root, 33, plain(51))
	r.same()
}

func TestFull(t *testing.T) { // P10.2
	r := rigged(t, 5)
	a, b := r.open(), r.open()
	r.put(a, 0, plain(50))
	r.put(b, 992, plain(51))
	held := r.take()
	r.same()
	// A table that is there needs no frame, another one does.
	for _, page := range []int{32, 31, 1023, 1, 64} {
		r.put(a, page, plain(52))
		r.put(b, page, plain(53))
		r.same()
	}
	if err := r.man.Map(a, 32, plain(52)); err != api.ErrFull {
		t.Errorf("Map: %d, want ErrFull", err)
	}
	// A frame more is enough for one of them.
	r.back(held)
	r.put(a, 32, plain(52))
	r.put(b, 32, plain(52))
	r.same()
	// A table that is freed is one that may be had.
	r.drop(a, 32)
	r.put(b, 32, plain(52))
	r.same()
}

func TestUnmap(t *testing.T) { // P10.2, P10.5
	r := rigged(t, 8)
	root := r.open()
	for _, page := range []int{32, 33, 63, 64, 1023} {
		r.put(root, page, plain(page%64))
	}
	for _, page := range []int{0, 31, 34, 62, 65, 95, 96, 1022} {
		r.drop(root, page)
		r.same()
	}
	for _, page := range []int{33, 32, 63, 1023, 64} {
		r.drop(root, page)
		r.same()
		r.drop(root, page)
		r.same()
	}
	// The tables that come next have nothing of the old ones.
	r.put(root, 500, plain(1))
	r.put(root, 0, plain(2))
	r.same()
}

func TestSet(t *testing.T) { // P10.2, P10.4
	r := rigged(t, 8)
	a, b := r.open(), r.open()
	for _, page := range []int{0, 31, 1023} {
		r.put(a, page, plain(50))
		r.put(b, page, plain(51))
	}
	for _, page := range []int{0, 31, 1023} {
		for _, e := range []api.Entry{{Present: true, Frame: 50}, {Present: true, Cow: true, Frame: 50}, plain(63), plain(63), {Present: true}} {
			r.set(a, page, e)
			r.same()
		}
	}
	// A page that is not mapped stays so, whether its table is there or not.
	for _, page := range []int{1, 30, 32, 1022, 512} {
		r.set(a, page, plain(50))
		r.same()
	}
	// No frame is needed.
	for r.p.Left(1) > 0 {
		r.take()
	}
	r.set(b, 31, plain(50))
	r.same()
}

func TestAllOfAll(t *testing.T) { // P10.3, P10.5
	r := rigged(t, 40)
	root := r.open()
	// In an order that is not theirs.
	for i := range 1024 {
		page := (i*389 + 7) % 1024
		r.put(root, page, plain((page*7+3)%64))
	}
	r.same()
	if many := r.man.Tables(root); many != 33 {
		t.Errorf("Tables: %d, want 33", many)
	}
	if l := r.man.All(root); len(l) != 1024 {
		t.Errorf("All: %d", len(l))
	}
	for i := range 1024 {
		r.drop(root, (i*277+11)%1024)
		if i%64 == 0 {
			r.same()
		}
	}
	r.same()
	r.close(root)
	r.same()
}

func TestAllIsNew(t *testing.T) { // P10.3
	r := rigged(t, 8)
	root := r.open()
	r.put(root, 3, plain(50))
	r.put(root, 99, plain(51))
	l := r.man.All(root)
	for i := range l {
		l[i] = api.Mapping{Page: 7, E: plain(1)}
	}
	_ = append(l[:0:cap(l)], make([]api.Mapping, cap(l))...)
	r.same()
	// What was told stays when it is another way.
	l = r.man.All(root)
	was := slices.Clone(l)
	r.drop(root, 3)
	r.set(root, 99, plain(52))
	if !slices.Equal(l, was) {
		t.Errorf("an answer of All: %v, it was %v", l, was)
	}
}

func TestEachPage(t *testing.T) { // P10.4, P10.5
	r := rigged(t, 3)
	root := r.open()
	for page := range 1024 {
		r.put(root, page, plain(50))
		if many := r.man.Tables(root); many != 2 {
			t.Fatalf("Tables with the page %d: %d, want 2", page, many)
		}
		for _, near := range []int{page - 32, page - 1, page, page + 1, page + 32} {
			if near >= 0 && near < 1024 {
				r.walked(root, near, r.spaces[root][near])
			}
		}
		for place := range 32 {
			if f, p, ft := walk.At(r.m, root, api.Word(32*page+place), true); f != 50 || p != place || ft != api.FtNone {
				t.Fatalf("At of the page %d, the place %d: %d %d %d", page, place, f, p, ft)
			}
		}
		r.drop(root, page)
		if many := r.man.Tables(root); many != 1 {
			t.Fatalf("Tables behind the page %d: %d, want 1", page, many)
		}
	}
	r.same()
}

func TestWalkStores(t *testing.T) { // P10.4
	r := rigged(t, 8)
	a, b := r.open(), r.open()
	frame := r.take()
	r.put(a, 33, plain(frame))
	r.put(b, 2, api.Entry{Present: true, Frame: frame})
	if ft := walk.Store(r.m, a, 33*32+5, 77); ft != api.FtNone {
		t.Errorf("Store: %d", ft)
	}
	if w, ft := walk.Load(r.m, b, 2*32+5); w != 77 || ft != api.FtNone {
		t.Errorf("Load: %d %d, want 77", w, ft)
	}
	if ft := walk.Store(r.m, b, 2*32+5, 78); ft != api.FtWrite {
		t.Errorf("Store: %d, want FtWrite", ft)
	}
	r.set(b, 2, api.Entry{Present: true, Cow: true, Frame: frame})
	if ft := walk.Store(r.m, b, 2*32+5, 78); ft != api.FtCow {
		t.Errorf("Store: %d, want FtCow", ft)
	}
	// A frame that is not mapped any more keeps its words, and whoever holds it.
	r.words[frame][5] = 77
	r.drop(a, 33)
	r.drop(b, 2)
	r.same()
}

func TestManagersAreApart(t *testing.T) { // P10.2, P10.5
	m, p := over(t, 32, api.Range{From: 16, Many: 8}, api.Range{From: 0, Many: 8})
	a, _ := ptable.New(m, p, 0)
	b, _ := ptable.New(m, p, 1)
	c, _ := ptable.New(m, p, 0)
	ra, _ := a.Open()
	rb, _ := b.Open()
	rc, _ := c.Open()
	if ra != 16 || rb != 0 || rc != 17 {
		t.Fatalf("Open: %d %d %d, want 16 0 17", ra, rb, rc)
	}
	for i, man := range []*ptable.Manager{a, b, c} {
		for j, root := range []int{ra, rb, rc} {
			want := api.ErrNone
			if i == j {
				want = api.OK
			}
			if err := man.Map(root, 40+i, plain(30)); err != want {
				t.Errorf("Map by %d in the space of %d: %d, want %d", i, j, err, want)
			}
			if _, ok := man.Query(root, 40+i); ok != (i == j) {
				t.Errorf("Query by %d in the space of %d: %t", i, j, ok)
			}
			if many := len(man.All(root)); many != man.Tables(root)/2 {
				t.Errorf("All by %d in the space of %d: %d", i, j, many)
			}
		}
	}
	if p.Left(0) != 4 || p.Left(1) != 6 {
		t.Errorf("Left: %d %d, want 4 6", p.Left(0), p.Left(1))
	}
}

// step does something to a rig, of which most may be done.
func (r *rig) step(x *random) {
	r.t.Helper()
	root := x.below(64)
	if l := r.roots(); len(l) > 0 && x.below(20) > 0 {
		root = l[x.below(len(l))]
	}
	// Few pages, in few tables, so that they meet.
	page := x.below(4)*300 + x.below(3)
	e := x.entry(64)
	if x.below(20) == 0 {
		e = wrong[x.below(len(wrong))]
	}
	if x.below(20) == 0 {
		page = off[x.below(len(off))]
	}
	switch x.below(14) {
	case 0:
		r.close(root)
	case 1:
		if r.left() > 0 {
			r.open()
		} else if root, err := r.man.Open(); root != 0 || err != api.ErrFull {
			r.t.Fatalf("Open: %d %d, want ErrFull", root, err)
		}
	case 2, 3, 4, 5, 6:
		r.put(root, page, e)
	case 7, 8:
		r.set(root, page, e)
	default:
		r.drop(root, page)
	}
}

func TestRowsOfSteps(t *testing.T) { // P10.1 to P10.5
	for many := 1; many <= 12; many++ {
		r, x := rigged(t, many), random(many)
		for at := range 600 {
			if at == 300 && r.left() > 1 {
				r.take()
			}
			r.step(&x)
			if at%4 == 0 {
				r.same()
			}
		}
		r.same()
	}
}

func TestWordsOfOthers(t *testing.T) { // whatever stands in the tables, nothing panics, and the walk is followed
	words := []api.Word{0, 1, 3, 7, 0x101, 0xa01, 0xb03, 0xc05, 0x3f01, 0x4001, 0x3ff01, 0x40001, math.MaxUint32}
	x := random(10)
	for range 30 {
		r := rigged(t, 6)
		a, b := r.open(), r.open()
		for _, page := range []int{0, 1, 300, 1023} {
			r.man.Map(a, page, plain(50))
			r.man.Map(b, page, plain(51))
		}
		for range 60 {
			r.m.Write(10+x.below(6), x.below(32), words[x.below(len(words))])
			root, page := 10+x.below(2), x.below(1024)
			switch x.below(4) {
			case 0:
				r.man.Map(root, page, x.entry(64))
			case 1:
				r.man.Unmap(root, page)
			case 2:
				r.man.Set(root, page, x.entry(64))
			default:
				r.man.Close(root)
			}
			for page := range 1024 {
				f, _, ft := walk.At(r.m, a, api.Word(32*page), false)
				e, ok := r.man.Query(a, page)
				if r.man.Tables(a) > 0 && (ok != (ft == api.FtNone) || e.Frame != f) {
					t.Fatalf("Query(%d, %d): %+v %t, the walk finds %d %d", a, page, e, ok, f, ft)
				}
			}
		}
	}
}

func TestExamples(t *testing.T) {
	r := rigged(t, 8)
	root := r.open()
	tables := func(want int) {
		t.Helper()
		if many := r.man.Tables(root); many != want {
			t.Errorf("Tables: %d, want %d", many, want)
		}
	}
	answers := func(err, want api.Errno) {
		t.Helper()
		if err != want {
			t.Errorf("error %d, want %d", err, want)
		}
	}
	answers(r.man.Map(root, 33, plain(7)), api.OK)
	tables(2)
	if e, ok := r.man.Query(root, 33); e != plain(7) || !ok {
		t.Errorf("Query: %+v %t", e, ok)
	}
	answers(r.man.Map(root, 33, plain(7)), api.ErrThere)
	answers(r.man.Map(root, 40, plain(8)), api.OK)
	tables(2)
	answers(r.man.Close(root), api.ErrState)
	for _, page := range []int{33, 40} {
		_, err := r.man.Unmap(root, page)
		answers(err, api.OK)
	}
	tables(1)
	answers(r.man.Close(root), api.OK)
	tables(0)
}
