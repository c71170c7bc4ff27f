package palloc_test

import (
	"math"
	"slices"
	"testing"

	"priory/api"
	"priory/mem"
	"priory/palloc"
)

// off are numbers that are no frame's and no partition's, whatever the memory.
var off = []int{math.MinInt, math.MinInt + 1, -1 << 32, -1<<32 + 1, -1 << 31, -1024, -64, -8, -2, -1, 1024, 1025, 1 << 16, math.MaxInt32, 1 << 32, 1<<32 + 1, math.MaxInt - 1023, math.MaxInt - 1, math.MaxInt}

// random is a row of numbers that is always the same.
type random uint32

// below tells the next number, which is below n.
func (r *random) below(n int) int {
	*r = *r*1664525 + 1013904223
	return int(*r>>8) % n
}

// ranges are those that begin at a number, and have as many frames as the one behind it says.
func ranges(n ...int) []api.Range {
	var l []api.Range
	for i := 1; i < len(n); i += 2 {
		l = append(l, api.Range{From: n[i-1], Many: n[i]})
	}
	return l
}

// ones are so many ranges of a frame each, from 0 on.
func ones(many int) []api.Range {
	var l []api.Range
	for f := range many {
		l = append(l, api.Range{From: f, Many: 1})
	}
	return l
}

// memory is a memory of so many frames, all of whose words differ, and are not 0.
func memory(t *testing.T, frames int) *mem.Mem {
	t.Helper()
	m, err := mem.New(frames)
	if err != api.OK {
		t.Fatalf("mem.New(%d): %d", frames, err)
	}
	for f := range frames {
		fill(t, m, f)
	}
	return m
}

// fill writes all words of a frame, of which none is 0.
func fill(t *testing.T, m *mem.Mem, frame int) {
	t.Helper()
	for p := range 32 {
		if err := m.Write(frame, p, api.Word(32*frame+p+1)*0x9e3779b1); err != api.OK {
			t.Fatalf("Write(%d, %d): %d", frame, p, err)
		}
	}
}

// pages are all words of a memory.
func pages(t *testing.T, m *mem.Mem) [][]api.Word {
	t.Helper()
	all := make([][]api.Word, m.Frames())
	for f := range all {
		l, err := m.Page(f)
		if err != api.OK {
			t.Fatalf("Page(%d): %d", f, err)
		}
		all[f] = l
	}
	return all
}

// samePages holds a memory against what it should have.
func samePages(t *testing.T, m *mem.Mem, want [][]api.Word) {
	t.Helper()
	if got := pages(t, m); !slices.EqualFunc(got, want, slices.Equal) {
		t.Fatalf("memory: %v, want %v", got, want)
	}
}

// made is a pool that New answers, which must do so.
func made(t *testing.T, m *mem.Mem, l ...api.Range) *palloc.Pool {
	t.Helper()
	p, err := palloc.New(m, l)
	if p == nil || err != api.OK {
		t.Fatalf("New(%v): %v %d", l, p, err)
	}
	return p
}

// model is a pool as the document tells it: the ranges, how often each frame is held, and the memory's words.
type model struct {
	frames int
	l      []api.Range
	refs   [1024]int
	words  [][]api.Word
}

// both is a pool over a memory that is filled, and its model.
func both(t *testing.T, frames int, l ...api.Range) (*mem.Mem, *palloc.Pool, *model) {
	t.Helper()
	m := memory(t, frames)
	return m, made(t, m, l...), &model{frames: frames, l: slices.Clone(l), words: pages(t, m)}
}

// has tells a partition's frames, rising.
func (w *model) has(part int) []int {
	var l []int
	if part >= 0 && part < len(w.l) {
		for i := range w.l[part].Many {
			l = append(l, w.l[part].From+i)
		}
	}
	return l
}

// free tells those of a partition's frames that are not held, rising.
func (w *model) free(part int) []int {
	return slices.DeleteFunc(w.has(part), func(f int) bool { return w.refs[f] > 0 })
}

// owner tells whose a frame is.
func (w *model) owner(frame int) (int, api.Errno) {
	for part := range w.l {
		if slices.Contains(w.has(part), frame) {
			return part, api.OK
		}
	}
	return 0, api.ErrArg
}

// alloc is Alloc.
func (w *model) alloc(part int) (int, api.Errno) {
	if part < 0 || part >= len(w.l) {
		return 0, api.ErrArg
	}
	free := w.free(part)
	if len(free) == 0 {
		return 0, api.ErrFull
	}
	w.refs[free[0]] = 1
	w.words[free[0]] = make([]api.Word, 32)
	return free[0], api.OK
}

// share is Share.
func (w *model) share(frame int) api.Errno {
	if _, err := w.owner(frame); err != api.OK {
		return err
	}
	switch w.refs[frame] {
	case 0:
		return api.ErrNone
	case 64:
		return api.ErrFull
	}
	w.refs[frame]++
	return api.OK
}

// drop is Free.
func (w *model) drop(frame int) api.Errno {
	if _, err := w.owner(frame); err != api.OK {
		return err
	}
	if w.refs[frame] == 0 {
		return api.ErrNone
	}
	w.refs[frame]--
	return api.OK
}

// written fills a frame of both.
func written(t *testing.T, m *mem.Mem, w *model, frame int) {
	t.Helper()
	fill(t, m, frame)
	w.words[frame] = pages(t, m)[frame]
}

// alloc asks both for a frame.
func alloc(t *testing.T, p *palloc.Pool, w *model, part int) int {
	t.Helper()
	want, e := w.alloc(part)
	got, err := p.Alloc(part)
	if got != want || err != e {
		t.Fatalf("Alloc(%d): %d %d, want %d %d", part, got, err, want, e)
	}
	return got
}

// share asks both to hold a frame once more.
func share(t *testing.T, p *palloc.Pool, w *model, frame int) {
	t.Helper()
	want := w.share(frame)
	if err := p.Share(frame); err != want {
		t.Fatalf("Share(%d): %d, want %d", frame, err, want)
	}
}

// drop asks both to hold a frame once less.
func drop(t *testing.T, p *palloc.Pool, w *model, frame int) {
	t.Helper()
	want := w.drop(frame)
	if err := p.Free(frame); err != want {
		t.Fatalf("Free(%d): %d, want %d", frame, err, want)
	}
}

// same holds what a pool tells against its model; of numbers that may not be, too.
func same(t *testing.T, p *palloc.Pool, w *model) {
	t.Helper()
	frames := slices.Clone(off)
	for f := -2; f < w.frames+2; f++ {
		frames = append(frames, f)
	}
	for _, f := range frames {
		want, e := w.owner(f)
		if got, err := p.Owner(f); got != want || err != e {
			t.Fatalf("Owner(%d): %d %d, want %d %d", f, got, err, want, e)
		}
		refs := 0
		if e == api.OK {
			refs = w.refs[f]
		}
		if got := p.Refs(f); got != refs {
			t.Fatalf("Refs(%d): %d, want %d", f, got, refs)
		}
	}
	for _, part := range append([]int{0, 1, 2, 3, 4, 5, 6, 7, 8, 9}, off...) {
		if got, want := p.Left(part), len(w.free(part)); got != want {
			t.Fatalf("Left(%d): %d, want %d", part, got, want)
		}
	}
}

// sameAll is same, of the memory, too.
func sameAll(t *testing.T, m *mem.Mem, p *palloc.Pool, w *model) {
	t.Helper()
	same(t, p, w)
	samePages(t, m, w.words)
}

func TestNew(t *testing.T) { // P9.1
	lists := [][]api.Range{
		ranges(0, 1),
		ranges(0, 1024),
		ranges(1023, 1),
		ranges(1, 1023),
		ranges(0, 512, 512, 512),
		ranges(512, 512, 0, 512),
		ranges(1, 1022, 1023, 1, 0, 1),
		ranges(700, 7, 3, 4, 9, 1, 400, 256, 7, 2),
		ones(8),
		ranges(896, 128, 768, 128, 640, 128, 512, 128, 384, 128, 256, 128, 128, 128, 0, 128),
	}
	for _, l := range lists {
		m, p, w := both(t, 1024, l...)
		sameAll(t, m, p, w)
	}
	// A memory that the range just fills.
	for frames := 1; frames <= 1024; frames++ {
		m, err := mem.New(frames)
		if err != api.OK {
			t.Fatalf("mem.New(%d): %d", frames, err)
		}
		p := made(t, m, api.Range{From: 0, Many: frames})
		if left := p.Left(0); left != frames {
			t.Fatalf("Left of %d frames: %d", frames, left)
		}
		made(t, m, api.Range{From: frames - 1, Many: 1})
	}
}

// mayBe: may there be a pool of these over so many frames? The frames are counted one by one.
func mayBe(frames int, l []api.Range) bool {
	if len(l) < 1 || len(l) > 8 {
		return false
	}
	var taken [64]bool
	for _, r := range l {
		if r.From < 0 || r.Many < 1 {
			return false
		}
		for f := r.From; f < r.From+r.Many; f++ {
			if f >= frames || taken[f] {
				return false
			}
			taken[f] = true
		}
	}
	return true
}

// asked holds New against mayBe.
func asked(t *testing.T, m *mem.Mem, l ...api.Range) {
	t.Helper()
	p, err := palloc.New(m, l)
	switch may := mayBe(m.Frames(), l); {
	case may && (p == nil || err != api.OK):
		t.Fatalf("New(%d frames, %v): %v %d, want a pool", m.Frames(), l, p, err)
	case !may && (p != nil || err != api.ErrArg):
		t.Fatalf("New(%d frames, %v): %v %d, want ErrArg", m.Frames(), l, p, err)
	}
}

func TestNewOfAllSmallRanges(t *testing.T) { // P9.1
	m := memory(t, 5)
	words := pages(t, m)
	var all []api.Range
	for from := -2; from < 8; from++ {
		for many := -2; many < 8; many++ {
			all = append(all, api.Range{From: from, Many: many})
		}
	}
	for _, a := range all {
		asked(t, m, a)
		for _, b := range all {
			asked(t, m, a, b)
			// What is wrong may stand anywhere, and need not be told by the one just ahead.
			asked(t, m, a, api.Range{From: 2, Many: 1}, b)
			asked(t, m, a, b, api.Range{From: 4, Many: 1})
		}
	}
	samePages(t, m, words)
}

func TestNewThatMayNotBe(t *testing.T) { // P9.1
	m := memory(t, 16)
	refused := func(l ...api.Range) {
		t.Helper()
		if p, err := palloc.New(m, l); p != nil || err != api.ErrArg {
			t.Errorf("New(%v): %v %d, want ErrArg", l, p, err)
		}
	}
	refused()
	refused([]api.Range{}...)
	for many := 9; many <= 16; many++ {
		refused(ones(many)...)
	}
	for _, n := range off {
		for _, x := range append([]int{0, 1, 15, 16, -n, 1 - n, 15 - n, 16 - n}, off...) {
			refused(api.Range{From: n, Many: x})
			refused(api.Range{From: 0, Many: 1}, api.Range{From: n, Many: x})
			refused(api.Range{From: x, Many: n})
			refused(api.Range{From: x, Many: n}, api.Range{From: 0, Many: 1})
		}
	}
	// The first and the last one of 8 meet.
	refused(append(ones(7), api.Range{From: 0, Many: 1})...)
	refused(append(ones(7), api.Range{From: 6, Many: 2})...)
	refused(append(ones(7), api.Range{From: 7, Many: 10})...)
	made(t, m, append(ones(7), api.Range{From: 7, Many: 9})...)
}

func TestNewWithoutMemory(t *testing.T) { // P9.1
	none, _ := mem.New(0)
	for _, m := range []*mem.Mem{nil, none, {}, new(mem.Mem)} {
		// ErrNil goes ahead of ErrArg.
		for _, l := range [][]api.Range{ones(1), ones(8), ones(9), nil, {}, ranges(-1, 1), ranges(0, 0), ranges(0, 2, 1, 1)} {
			if p, err := palloc.New(m, l); p != nil || err != api.ErrNil {
				t.Errorf("New(%v) without a memory: %v %d, want ErrNil", l, p, err)
			}
		}
	}
}

func TestNewKeepsNoList(t *testing.T) { // P9.1
	room := ranges(0, 2, 4, 2, 2, 1, 7, 7)
	l := room[:2]
	m, p, w := both(t, 16, l...)
	alloc(t, p, w, 0)
	alloc(t, p, w, 1)
	if want := ranges(0, 2, 4, 2, 2, 1, 7, 7); !slices.Equal(room, want) {
		t.Errorf("the list and what is behind it: %v, want %v", room, want)
	}
	l[0], l[1] = api.Range{From: 9, Many: 5}, api.Range{From: -1, Many: 0}
	sameAll(t, m, p, w)
	alloc(t, p, w, 0)
	alloc(t, p, w, 0)
	sameAll(t, m, p, w)
}

func TestNoPool(t *testing.T) { // P9.2, P9.3, P9.4
	none, _ := palloc.New(memory(t, 1), nil)
	numbers := append([]int{0, 1, 7, 8, 1023}, off...)
	for _, p := range []*palloc.Pool{nil, none, {}, new(palloc.Pool)} {
		// ErrNil goes ahead of ErrArg.
		for _, n := range numbers {
			if f, err := p.Alloc(n); f != 0 || err != api.ErrNil {
				t.Errorf("Alloc(%d): %d %d, want ErrNil", n, f, err)
			}
			if err := p.Share(n); err != api.ErrNil {
				t.Errorf("Share(%d): %d, want ErrNil", n, err)
			}
			if err := p.Free(n); err != api.ErrNil {
				t.Errorf("Free(%d): %d, want ErrNil", n, err)
			}
			if part, err := p.Owner(n); part != 0 || err != api.ErrNil {
				t.Errorf("Owner(%d): %d %d, want ErrNil", n, part, err)
			}
			if p.Refs(n) != 0 || p.Left(n) != 0 {
				t.Errorf("Refs and Left of %d: %d %d, want 0", n, p.Refs(n), p.Left(n))
			}
		}
	}
}

func TestAlloc(t *testing.T) { // P9.2
	m, p, w := both(t, 40, ranges(30, 5, 0, 1, 3, 9, 39, 1)...)
	for _, part := range []int{2, 0, 0, 2, 3, 2, 1, 0, 2} {
		alloc(t, p, w, part)
		sameAll(t, m, p, w)
	}
	// Each range to its end, and once more: a refusal changes nothing.
	for part := range 4 {
		for p.Left(part) > 0 {
			alloc(t, p, w, part)
			sameAll(t, m, p, w)
		}
		for range 2 {
			if f, err := p.Alloc(part); f != 0 || err != api.ErrFull {
				t.Errorf("Alloc(%d) of none: %d %d, want ErrFull", part, f, err)
			}
			sameAll(t, m, p, w)
		}
	}
}

func TestAllocOfAllFrames(t *testing.T) { // P9.2
	m, p, w := both(t, 1024, api.Range{From: 0, Many: 1024})
	for f := range 1024 {
		if got, err := p.Alloc(0); got != f || err != api.OK {
			t.Fatalf("Alloc: %d %d, want %d", got, err, f)
		}
		w.refs[f], w.words[f] = 1, make([]api.Word, 32)
		if p.Refs(f) != 1 || p.Left(0) != 1023-f {
			t.Fatalf("behind Alloc of %d: Refs %d, Left %d", f, p.Refs(f), p.Left(0))
		}
	}
	alloc(t, p, w, 0)
	sameAll(t, m, p, w)
}

func TestAllocTellsTheLeast(t *testing.T) { // P9.2
	_, p, w := both(t, 12, ranges(2, 8)...)
	for range 8 {
		alloc(t, p, w, 0)
	}
	// However they were freed.
	for _, l := range [][]int{{9, 2, 5}, {2, 3}, {8, 7, 6}, {2, 3, 4, 5, 6, 7, 8, 9}, {9, 8, 7, 6, 5, 4, 3, 2}, {4, 9, 3}} {
		for _, f := range l {
			drop(t, p, w, f)
			same(t, p, w)
		}
		slices.Sort(l)
		for _, f := range l {
			if got := alloc(t, p, w, 0); got != f {
				t.Fatalf("Alloc: %d, want %d", got, f)
			}
			same(t, p, w)
		}
	}
}

func TestAllocZeroes(t *testing.T) { // P9.2
	m, p, w := both(t, 6, ranges(1, 3)...)
	for round := range 4 {
		f := alloc(t, p, w, 0)
		sameAll(t, m, p, w)
		// Written to while it is held, or while it is free: its words stay till it is handed out again.
		if round%2 == 0 {
			written(t, m, w, f)
		}
		drop(t, p, w, f)
		sameAll(t, m, p, w)
		if round%2 == 1 {
			written(t, m, w, f)
		}
	}
	// Words of a frame that is held stay, whoever is handed another one.
	f := alloc(t, p, w, 0)
	written(t, m, w, f)
	alloc(t, p, w, 0)
	share(t, p, w, f)
	drop(t, p, w, f)
	drop(t, p, w, f+1)
	alloc(t, p, w, 0)
	sameAll(t, m, p, w)
}

func TestPartitionsThatThereAreNot(t *testing.T) { // P9.2, P9.4
	for many := 1; many <= 8; many++ {
		m, p, w := both(t, 9, ones(many)...)
		for _, part := range append([]int{many, many + 1, 7 + many, 8, 9}, off...) {
			if f, err := p.Alloc(part); f != 0 || err != api.ErrArg {
				t.Errorf("Alloc(%d) of %d partitions: %d %d, want ErrArg", part, many, f, err)
			}
			if left := p.Left(part); left != 0 {
				t.Errorf("Left(%d) of %d partitions: %d, want 0", part, many, left)
			}
		}
		sameAll(t, m, p, w)
	}
}

func TestShare(t *testing.T) { // P9.3
	m, p, w := both(t, 8, ranges(5, 2, 1, 2)...)
	for _, f := range []int{5, 6, 1, 2} {
		if err := p.Share(f); err != api.ErrNone {
			t.Errorf("Share(%d) of what is free: %d, want ErrNone", f, err)
		}
		sameAll(t, m, p, w)
	}
	f := alloc(t, p, w, 1)
	for n := 2; n <= 64; n++ {
		share(t, p, w, f)
		sameAll(t, m, p, w)
		if refs := p.Refs(f); refs != n {
			t.Fatalf("Refs(%d): %d, want %d", f, refs, n)
		}
	}
	for range 3 {
		if err := p.Share(f); err != api.ErrFull {
			t.Errorf("Share(%d) once too often: %d, want ErrFull", f, err)
		}
		sameAll(t, m, p, w)
	}
	// Another one may be held so often, too; and this one once more, when it was once less.
	g := alloc(t, p, w, 1)
	for range 63 {
		share(t, p, w, g)
	}
	drop(t, p, w, f)
	share(t, p, w, f)
	if err := p.Share(f); err != api.ErrFull || p.Refs(f) != 64 || p.Refs(g) != 64 {
		t.Errorf("Share(%d): %d, Refs %d %d, want ErrFull, 64, 64", f, err, p.Refs(f), p.Refs(g))
	}
	sameAll(t, m, p, w)
}

func TestFree(t *testing.T) { // P9.3
	m, p, w := both(t, 8, ranges(5, 2, 1, 2)...)
	for _, f := range []int{5, 6, 1, 2} {
		if err := p.Free(f); err != api.ErrNone {
			t.Errorf("Free(%d) of what is free: %d, want ErrNone", f, err)
		}
		sameAll(t, m, p, w)
	}
	f := alloc(t, p, w, 1)
	for range 63 {
		share(t, p, w, f)
	}
	for n := 63; n >= 1; n-- {
		drop(t, p, w, f)
		same(t, p, w)
		if refs := p.Refs(f); refs != n {
			t.Fatalf("Refs(%d): %d, want %d", f, refs, n)
		}
	}
	// It is held once still, so that another one is handed out.
	if got := alloc(t, p, w, 1); got == f {
		t.Fatalf("Alloc: %d, which is held", got)
	}
	drop(t, p, w, f)
	sameAll(t, m, p, w)
	for range 2 {
		if err := p.Free(f); err != api.ErrNone {
			t.Errorf("Free(%d) once too often: %d, want ErrNone", f, err)
		}
		if err := p.Share(f); err != api.ErrNone {
			t.Errorf("Share(%d) behind Free: %d, want ErrNone", f, err)
		}
		sameAll(t, m, p, w)
	}
	if got := alloc(t, p, w, 1); got != f {
		t.Fatalf("Alloc: %d, want %d", got, f)
	}
	sameAll(t, m, p, w)
}

func TestFramesOfNoRange(t *testing.T) { // P9.3, P9.4
	m, p, w := both(t, 12, ranges(8, 2, 1, 2, 4, 1)...)
	for part := range 3 {
		alloc(t, p, w, part)
	}
	for _, f := range append([]int{0, 3, 5, 6, 7, 10, 11, 12, 13, 72, 65}, off...) {
		if err := p.Share(f); err != api.ErrArg {
			t.Errorf("Share(%d): %d, want ErrArg", f, err)
		}
		if err := p.Free(f); err != api.ErrArg {
			t.Errorf("Free(%d): %d, want ErrArg", f, err)
		}
		if part, err := p.Owner(f); part != 0 || err != api.ErrArg {
			t.Errorf("Owner(%d): %d %d, want ErrArg", f, part, err)
		}
		if refs := p.Refs(f); refs != 0 {
			t.Errorf("Refs(%d): %d, want 0", f, refs)
		}
	}
	sameAll(t, m, p, w)
}

func TestOwner(t *testing.T) { // P9.4
	_, p, w := both(t, 1024, ranges(512, 256, 1023, 1, 0, 4, 4, 252, 1000, 23)...)
	same(t, p, w)
	for part, l := range [][]int{{512, 513, 767}, {1023}, {0, 3}, {4, 255}, {1000, 1022}} {
		for _, f := range l {
			if got, err := p.Owner(f); got != part || err != api.OK {
				t.Errorf("Owner(%d): %d %d, want %d", f, got, err, part)
			}
		}
	}
	// Whose it is does not hang on whether it is held.
	f := alloc(t, p, w, 4)
	share(t, p, w, f)
	same(t, p, w)
	drop(t, p, w, f)
	drop(t, p, w, f)
	same(t, p, w)
}

// step is something that is done to a pool: of a partition, or of its n-th frame.
type step struct{ what, part, n int }

// answer is what a step answers, and, behind it, how often the frame is held, and what is left of the partition.
type answer struct {
	frame, refs, left int
	err               api.Errno
}

// done does a step.
func (x step) done(p *palloc.Pool, l []api.Range) answer {
	own := l[x.part].From + x.n%l[x.part].Many
	a := answer{frame: own}
	switch x.what {
	case 0, 1:
		a.frame, a.err = p.Alloc(x.part)
	case 2:
		a.err = p.Share(own)
	default:
		a.err = p.Free(own)
	}
	a.refs, a.left = p.Refs(own), p.Left(x.part)
	return a
}

// steps are so many, of any partitions.
func steps(r *random, many, parts int) []step {
	var l []step
	for range many {
		l = append(l, step{r.below(5), r.below(parts), r.below(64)})
	}
	return l
}

func TestPartitionsAreApart(t *testing.T) { // P9.5
	l := ranges(10, 6, 0, 3, 3, 7, 20, 1, 16, 4)
	r := random(9)
	for range 20 {
		row := steps(&r, 200, len(l))
		together := made(t, memory(t, 32), l...)
		var all []answer
		for _, x := range row {
			all = append(all, x.done(together, l))
		}
		// Each partition's steps answer the same where the others do nothing.
		for part := range l {
			alone := made(t, memory(t, 32), l...)
			for i, x := range row {
				if x.part != part {
					continue
				}
				if got := x.done(alone, l); got != all[i] {
					t.Fatalf("step %d, %v: %v among others, %v alone", i, x, all[i], got)
				}
			}
		}
	}
}

func TestOneUsesAllUp(t *testing.T) { // P9.5
	for one := range 3 {
		m, p, w := both(t, 9, ranges(3, 3, 6, 3, 0, 3)...)
		for range 5 {
			alloc(t, p, w, one)
		}
		for other := range 3 {
			if other == one {
				continue
			}
			if left := p.Left(other); left != 3 {
				t.Errorf("Left(%d): %d, want 3", other, left)
			}
			if f := alloc(t, p, w, other); f != w.l[other].From {
				t.Errorf("Alloc(%d): %d, want %d", other, f, w.l[other].From)
			}
		}
		sameAll(t, m, p, w)
	}
}

func TestHandedOutIsNobodys(t *testing.T) { // P9.5
	m := memory(t, 24)
	l := ranges(12, 5, 1, 8, 20, 4)
	p := made(t, m, l...)
	held := map[int]bool{}
	r := random(5)
	for range 2000 {
		part := r.below(3)
		f, err := p.Alloc(part)
		if err == api.OK {
			if owner, _ := p.Owner(f); held[f] || owner != part {
				t.Fatalf("Alloc(%d): %d, which is somebody's, or of %d", part, f, owner)
			}
			if words, _ := m.Page(f); !slices.Equal(words, make([]api.Word, 32)) {
				t.Fatalf("Alloc(%d): %d, of %v", part, f, words)
			}
			held[f] = true
			fill(t, m, f)
		}
		if f := r.below(24); held[f] && r.below(3) > 0 {
			if err := p.Free(f); err != api.OK {
				t.Fatalf("Free(%d): %d", f, err)
			}
			delete(held, f)
		}
		// Held and free ones are together the range.
		for part, x := range l {
			many := p.Left(part)
			for f := x.From; f < x.From+x.Many; f++ {
				if p.Refs(f) > 0 {
					many++
				}
			}
			if many != x.Many {
				t.Fatalf("of %d there are %d held and free, want %d", part, many, x.Many)
			}
		}
	}
}

func TestRowsOfSteps(t *testing.T) { // P9.2, P9.3, P9.4, P9.5
	r := random(1)
	m, p, w := both(t, 20, ranges(14, 3, 2, 1, 4, 8, 3, 1)...)
	for at := range 20000 {
		// Often the same frame, so that it is held as often as may be, too.
		f := r.below(22) - 1
		if at%1000 < 500 {
			f = 4 + r.below(2)
		}
		switch what := r.below(9); {
		case what == 0:
			alloc(t, p, w, r.below(6)-1)
		case what == 8:
			written(t, m, w, r.below(20))
		case what < 5 == (at/100%2 == 0):
			share(t, p, w, f)
		default:
			drop(t, p, w, f)
		}
		if at%20 == 0 {
			sameAll(t, m, p, w)
		}
	}
}

func TestPoolsAreApart(t *testing.T) { // P9.1
	m, a, w := both(t, 4, api.Range{From: 0, Many: 4})
	b := made(t, m, api.Range{From: 0, Many: 4})
	alloc(t, a, w, 0)
	share(t, a, w, 0)
	alloc(t, a, w, 0)
	same(t, a, w)
	same(t, b, &model{frames: 4, l: w.l})
	// All is asked of the memory that was handed in.
	fill(t, m, 2)
	alloc(t, a, w, 0)
	if words, err := m.Page(2); err != api.OK || !slices.Equal(words, make([]api.Word, 32)) {
		t.Errorf("Page(2): %v %d, want words of 0", words, err)
	}
}

func TestExamples(t *testing.T) {
	p := made(t, memory(t, 3), ranges(0, 2, 2, 1)...)
	allocs := func(part, want int, e api.Errno) {
		t.Helper()
		if f, err := p.Alloc(part); f != want || err != e {
			t.Errorf("Alloc(%d): %d %d, want %d %d", part, f, err, want, e)
		}
	}
	answers := func(err, want api.Errno) {
		t.Helper()
		if err != want {
			t.Errorf("error %d, want %d", err, want)
		}
	}
	allocs(0, 0, api.OK)
	allocs(0, 1, api.OK)
	allocs(0, 0, api.ErrFull)
	allocs(1, 2, api.OK)
	answers(p.Free(0), api.OK)
	allocs(0, 0, api.OK)
	answers(p.Share(1), api.OK)
	answers(p.Free(1), api.OK)
	if refs := p.Refs(1); refs != 1 {
		t.Errorf("Refs(1): %d, want 1", refs)
	}
	answers(p.Free(0), api.OK)
	answers(p.Share(0), api.ErrNone)
}
