package proc_test

import (
	"math"
	"slices"
	"testing"

	"priory/api"
	"priory/mem"
	"priory/palloc"
	"priory/proc"
)

// off are numbers that no process has, among them such of which the lower bits alone are one's.
var off = []int{math.MinInt, math.MinInt + 1, math.MinInt + 2, -1 << 32, -1<<32 + 1, -1 << 31, -257, -256, -255, -9, -8, -2, -1, 0, 9, 10, 16, 17, 18, 64, 255, 256, 257, 258, 65537, math.MaxInt32, 1 << 32, 1<<32 + 1, 1<<32 + 2, math.MaxInt - 1, math.MaxInt}

// offQuotas are quotas that may not be.
var offQuotas = []int{math.MinInt, math.MinInt + 1, -1 << 32, -1<<32 + 5, -257, -256, -5, -1, 0, 257, 258, 300, 512, 65535, 65536, 65537, math.MaxInt32, 1 << 32, 1<<32 + 1, 1<<32 + 5, math.MaxInt - 1, math.MaxInt}

// offRegs are registers that there are not.
var offRegs = []int{math.MinInt, math.MinInt + 1, -1 << 32, -256, -8, -2, -1, 8, 9, 10, 16, 31, 32, 256, 257, 1 << 32, 1<<32 + 1, math.MaxInt}

// words are such as registers and memory may have.
var words = []api.Word{0, 1, 2, 7, 255, 256, 1 << 16, 1<<31 - 1, 1 << 31, math.MaxUint32}

// random is a row of numbers that is always the same.
type random uint32

// below tells the next number, which is below n.
func (r *random) below(n int) int {
	*r = *r*1664525 + 1013904223
	return int(*r>>8) % n
}

// pick tells one of a list.
func pick[T any](r *random, l []T) T { return l[r.below(len(l))] }

// held is a frame of pages: how many have it.
type held struct{ refs int }

// page is one that is mapped: its words, which are nobody else's, and the frame that it should have.
type page struct {
	words [32]api.Word
	in    *held
}

// home is a space as it should be: the pages that are in areas, and whether they may be written to; those that are mapped.
type home struct {
	may   map[int]bool
	pages map[int]*page
}

// fresh is an empty space.
func fresh() *home { return &home{may: map[int]bool{}, pages: map[int]*page{}} }

// tables tells how many tables of the second level there are, if these pages are mapped, too.
func (h *home) tables(more ...int) int {
	l := map[int]bool{}
	for n := range h.pages {
		l[n/32] = true
	}
	for _, n := range more {
		l[n/32] = true
	}
	return len(l)
}

// cost tells what it is charged.
func (h *home) cost() int { return 1 + h.tables() + len(h.pages) }

// needs tells what a page is charged, if it is touched.
func (h *home) needs(n int) int {
	if h.pages[n] != nil {
		return 0
	}
	return 1 + h.tables(n) - h.tables()
}

// fork is a second space like it.
func (h *home) fork() *home {
	to := fresh()
	for n, write := range h.may {
		to.may[n] = write
	}
	for n, p := range h.pages {
		p.in.refs++
		to.pages[n] = &page{words: p.words, in: p.in}
	}
	return to
}

// touch is layer 16's.
func (h *home) touch(n int, write bool) *page {
	p := h.pages[n]
	if p == nil {
		p = &page{in: &held{refs: 1}}
		h.pages[n] = p
	}
	if write && p.in.refs > 1 {
		p.in.refs--
		p.in = &held{refs: 1}
	}
	return p
}

// drop is the end of a page.
func (h *home) drop(n int) {
	if p := h.pages[n]; p != nil {
		p.in.refs--
		delete(h.pages, n)
	}
}

// areas lists its areas.
func (h *home) areas() []api.Area {
	var l []api.Area
	for n := range 1024 {
		write, is := h.may[n]
		last := len(l) - 1
		switch {
		case !is:
		case last >= 0 && l[last].From+l[last].Many == n && l[last].Write == write:
			l[last].Many++
		default:
			l = append(l, api.Area{From: n, Many: 1, Write: write})
		}
	}
	return l
}

// mapped lists its pages that are mapped.
func (h *home) mapped() []int {
	var l []int
	for n := range 1024 {
		if h.pages[n] != nil {
			l = append(l, n)
		}
	}
	return l
}

// being is a process as it should be: with its container (of whose it was carved, how much) and its space, if it is no zombie.
type being struct {
	api.Proc
	regs      [8]api.Word
	up, quota int
	home      *home
}

// model is processes as they should be.
type model struct {
	slots int
	at    [9]*being
	row   []int
}

// begins is the model of new processes.
func begins(quota, slots int) model {
	m := model{slots: slots, row: []int{1}}
	m.at[1] = &being{Proc: api.Proc{Pid: 1, State: 1}, quota: quota, home: fresh()}
	return m
}

// find tells a process; nil, if it is not there.
func (m *model) find(pid int) *being {
	if pid < 1 || pid > 8 {
		return nil
	}
	return m.at[pid]
}

// lives tells a process that is there and no zombie; nil, if there is none.
func (m *model) lives(pid int) *being {
	if b := m.find(pid); b != nil && b.State != 3 {
		return b
	}
	return nil
}

// left tells what is left of a process's container.
func (m *model) left(pid int) int {
	of := m.lives(pid)
	if of == nil {
		return 0
	}
	left := of.quota - of.home.cost()
	for _, b := range m.at {
		if b != nil && b.State != 3 && b.up == pid {
			left -= b.quota
		}
	}
	return left
}

// charged tells what all are charged together, and how many frames are held.
func (m *model) charged() (used, frames int) {
	in := map[*held]bool{}
	for _, b := range m.at {
		if b == nil || b.home == nil {
			continue
		}
		used += b.home.cost()
		frames += 1 + b.home.tables()
		for _, p := range b.home.pages {
			in[p.in] = true
		}
	}
	return used, frames + len(in)
}

// leave takes a number out of the row.
func (m *model) leave(pid int) {
	m.row = slices.DeleteFunc(slices.Clone(m.row), func(n int) bool { return n == pid })
}

// bear is P18.4, of a child that needs so much.
func (m *model) bear(pid, quota, needs int) (int, api.Errno) {
	switch b := m.find(pid); {
	case quota < 1 || quota > 256:
		return 0, api.ErrArg
	case b == nil:
		return 0, api.ErrNone
	case b.State != 1:
		return 0, api.ErrState
	case m.left(pid) < quota || quota < needs:
		return 0, api.ErrFull
	}
	for n := 1; n <= m.slots; n++ {
		if m.at[n] == nil {
			m.at[n] = &being{Proc: api.Proc{Pid: n, Parent: pid, State: 1}, up: pid, quota: quota}
			m.row = append(slices.Clone(m.row), n)
			return n, api.OK
		}
	}
	return 0, api.ErrFull
}

// fork is P18.4.
func (m *model) fork(pid, quota int) (int, api.Errno) {
	needs := 0
	if b := m.lives(pid); b != nil {
		needs = b.home.cost()
	}
	child, err := m.bear(pid, quota, needs)
	if err == api.OK {
		b := m.at[child]
		b.home, b.regs = m.at[pid].home.fork(), m.at[pid].regs
		b.regs[0], b.regs[1] = 0, 0
	}
	return child, err
}

// spawn is P18.4.
func (m *model) spawn(pid, quota int, arg api.Word) (int, api.Errno) {
	child, err := m.bear(pid, quota, 1)
	if err == api.OK {
		m.at[child].home, m.at[child].regs[1] = fresh(), arg
	}
	return child, err
}

// ended tells the least child of a process that is a zombie; nil, if there is none.
func (m *model) ended(pid int) *being {
	for _, b := range m.at {
		if b != nil && b.Parent == pid && b.State == 3 {
			return b
		}
	}
	return nil
}

// learn lets a process learn the end of a child.
func (m *model) learn(b, child *being) {
	b.regs[0], b.regs[1], b.regs[2] = 0, api.Word(child.Pid), child.Code
	b.State = 1
	m.at[child.Pid] = nil
}

// exit is P18.5.
func (m *model) exit(pid int, code api.Word) api.Errno {
	b := m.find(pid)
	switch {
	case b == nil:
		return api.ErrNone
	case pid == 1:
		return api.ErrPerm
	case b.State == 3:
		return api.ErrState
	}
	for _, n := range b.home.mapped() {
		b.home.drop(n)
	}
	b.home, b.State, b.Code = nil, 3, code
	m.leave(pid)
	for _, other := range m.at {
		if other == nil {
			continue
		}
		if other.up == pid {
			other.up = b.up
		}
		if other.Parent == pid {
			other.Parent = 1
		}
	}
	for n, other := range m.at {
		if other == nil || other.State != 2 {
			continue
		}
		if child := m.ended(n); child != nil {
			m.learn(other, child)
			m.row = append(m.row, n)
		}
	}
	return api.OK
}

// wait is P18.6.
func (m *model) wait(pid int) api.Errno {
	b := m.find(pid)
	isParent := slices.ContainsFunc(m.at[:], func(other *being) bool { return other != nil && other.Parent == pid })
	switch {
	case b == nil || !isParent:
		return api.ErrNone
	case b.State != 1:
		return api.ErrState
	}
	if child := m.ended(pid); child != nil {
		m.learn(b, child)
		return api.OK
	}
	b.State = 2
	m.leave(pid)
	return api.OK
}

// kill is P18.5.
func (m *model) kill(pid, child int, code api.Word) api.Errno {
	if b := m.find(child); b == nil || b.Parent != pid {
		return api.ErrNone
	}
	return m.exit(child, code)
}

// all lists the processes.
func (m *model) all() []api.Proc {
	var l []api.Proc
	for _, b := range m.at {
		if b != nil {
			l = append(l, b.Proc)
		}
	}
	return l
}

// rig is processes, what they work over, and what should be there.
type rig struct {
	t          *testing.T
	m          *mem.Mem
	p          *palloc.Pool
	own, traps api.Range
	quota      int
	s          *proc.Procs
	want       model
}

// strange is the word that stands at a place at first.
func strange(frame, place int) api.Word { return 0x80000000 | api.Word(32*frame+place) }

// over is a pool of a memory of so many frames, all of whose words differ.
func over(t *testing.T, frames int, l ...api.Range) (*mem.Mem, *palloc.Pool) {
	t.Helper()
	m, err := mem.New(frames)
	if err != api.OK {
		t.Fatalf("mem.New(%d): %d", frames, err)
	}
	for f := range frames {
		for p := range 32 {
			m.Write(f, p, strange(f, p))
		}
	}
	p, err := palloc.New(m, l)
	if err != api.OK {
		t.Fatalf("palloc.New(%v): %d", l, err)
	}
	return m, p
}

// rigged is processes of the middle one of three partitions, which has as many frames, from 6 on, as its quota; the traps' frames are the last ones but two.
func rigged(t *testing.T, quota, slots int) *rig {
	t.Helper()
	own := api.Range{From: 6, Many: quota}
	traps := api.Range{From: 6 + quota + 6 + 2, Many: (slots + 2) / 3}
	m, p := over(t, traps.From+traps.Many+2, api.Range{From: 0, Many: 6}, own, api.Range{From: 6 + quota, Many: 6})
	s, err := proc.New(m, p, 1, traps, api.PartConf{Quota: quota, Slots: slots})
	if s == nil || err != api.OK {
		t.Fatalf("New of the quota %d and %d slots: %v %d", quota, slots, s, err)
	}
	return &rig{t: t, m: m, p: p, own: own, traps: traps, quota: quota, s: s, want: begins(quota, slots)}
}

// answers holds an error against the one that there should be.
func (r *rig) answers(err, want api.Errno, call string, args ...any) {
	r.t.Helper()
	if err != want {
		r.t.Fatalf("%s of %v: %d, want %d", call, args, err, want)
	}
}

// bears holds a child against the one that there should be.
func (r *rig) bears(got int, err api.Errno, want int, e api.Errno, call string, args ...any) {
	r.t.Helper()
	r.answers(err, e, call, args...)
	if got != want {
		r.t.Fatalf("%s of %v: %d, want %d", call, args, got, want)
	}
}

// fork asks Fork, holds the answer against what should be said, and tells the error.
func (r *rig) fork(pid, quota int) api.Errno {
	r.t.Helper()
	got, err := r.s.Fork(pid, quota)
	want, e := r.want.fork(pid, quota)
	r.bears(got, err, want, e, "Fork", pid, quota)
	return err
}

// spawn asks Spawn likewise.
func (r *rig) spawn(pid, quota int, arg api.Word) api.Errno {
	r.t.Helper()
	got, err := r.s.Spawn(pid, quota, arg)
	want, e := r.want.spawn(pid, quota, arg)
	r.bears(got, err, want, e, "Spawn", pid, quota, arg)
	return err
}

// exit asks Exit likewise.
func (r *rig) exit(pid int, code api.Word) api.Errno {
	r.t.Helper()
	err := r.s.Exit(pid, code)
	r.answers(err, r.want.exit(pid, code), "Exit", pid, code)
	return err
}

// wait asks Wait likewise.
func (r *rig) wait(pid int) api.Errno {
	r.t.Helper()
	err := r.s.Wait(pid)
	r.answers(err, r.want.wait(pid), "Wait", pid)
	return err
}

// kill asks Kill likewise.
func (r *rig) kill(pid, child int, code api.Word) api.Errno {
	r.t.Helper()
	err := r.s.Kill(pid, child, code)
	r.answers(err, r.want.kill(pid, child, code), "Kill", pid, child, code)
	return err
}

// put asks Put likewise.
func (r *rig) put(pid, reg int, w api.Word) api.Errno {
	r.t.Helper()
	want, b := api.OK, r.want.find(pid)
	switch {
	case reg < 0 || reg > 7:
		want = api.ErrArg
	case b == nil:
		want = api.ErrNone
	default:
		b.regs[reg] = w
	}
	err := r.s.Put(pid, reg, w)
	r.answers(err, want, "Put", pid, reg, w)
	return err
}

// mark puts words into all registers of a process that no other one has.
func (r *rig) mark(pid int) {
	r.t.Helper()
	for reg := range 8 {
		r.put(pid, reg, api.Word(1000*pid+10*reg+5))
	}
}

// turn asks Turn.
func (r *rig) turn() {
	r.t.Helper()
	r.s.Turn()
	if row := r.want.row; len(row) > 0 {
		r.want.row = append(slices.Clone(row[1:]), row[0])
	}
}

// spaced tells layer 16's error of a process number.
func (r *rig) spaced(pid int) (*home, api.Errno) {
	if pid < 1 || pid > 8 {
		return nil, api.ErrArg
	}
	if b := r.want.lives(pid); b != nil {
		return b.home, api.OK
	}
	return nil, api.ErrNone
}

// grow asks for an area of pages that there are.
func (r *rig) grow(pid, from, many int, write bool) api.Errno {
	r.t.Helper()
	h, want := r.spaced(pid)
	for n := from; n < from+many && want == api.OK; n++ {
		if _, is := h.may[n]; is {
			want = api.ErrThere
		}
	}
	if want == api.OK {
		for n := from; n < from+many; n++ {
			h.may[n] = write
		}
	}
	err := r.s.Spaces().Grow(pid, api.Area{From: from, Many: many, Write: write})
	r.answers(err, want, "Grow", pid, from, many, write)
	return err
}

// shrink asks for the end of pages that there are.
func (r *rig) shrink(pid, from, many int) api.Errno {
	r.t.Helper()
	h, want := r.spaced(pid)
	for n := from; n < from+many && want == api.OK; n++ {
		if _, is := h.may[n]; !is {
			want = api.ErrNone
		}
	}
	if want == api.OK {
		for n := from; n < from+many; n++ {
			delete(h.may, n)
			h.drop(n)
		}
	}
	err := r.s.Spaces().Shrink(pid, from, many)
	r.answers(err, want, "Shrink", pid, from, many)
	return err
}

// reached tells layer 16's error of an address of a page that there is.
func (r *rig) reached(pid int, va api.Word, write bool) (*home, api.Errno) {
	h, err := r.spaced(pid)
	if err != api.OK {
		return nil, err
	}
	n := int(va / 32)
	switch may, is := h.may[n]; {
	case !is:
		return nil, api.ErrFault
	case write && !may:
		return nil, api.ErrPerm
	case r.want.left(pid) < h.needs(n):
		return nil, api.ErrFull
	}
	return h, api.OK
}

// load asks for a word of a space.
func (r *rig) load(pid int, va api.Word) api.Errno {
	r.t.Helper()
	h, want := r.reached(pid, va, false)
	word := api.Word(0)
	if want == api.OK {
		word = h.touch(int(va/32), false).words[va%32]
	}
	w, err := r.s.Spaces().Load(pid, va)
	r.answers(err, want, "Load", pid, va)
	if w != word {
		r.t.Fatalf("Load(%d, %d): %d, want %d", pid, va, w, word)
	}
	return err
}

// store asks for a word to be put into a space.
func (r *rig) store(pid int, va, w api.Word) api.Errno {
	r.t.Helper()
	h, want := r.reached(pid, va, true)
	if want == api.OK {
		h.touch(int(va/32), true).words[va%32] = w
	}
	err := r.s.Spaces().Store(pid, va, w)
	r.answers(err, want, "Store", pid, va, w)
	return err
}

// same holds all that is told, and what lies in the memory, against what should be there.
func (r *rig) same() {
	r.t.Helper()
	all, row := r.s.All(), r.s.Row()
	if !slices.Equal(all, r.want.all()) {
		r.t.Fatalf("All: %v, want %v", all, r.want.all())
	}
	if !slices.Equal(row, r.want.row) {
		r.t.Fatalf("Row: %v, want %v", row, r.want.row)
	}
	head, runs := 0, len(row) > 0
	if runs {
		head = row[0]
	}
	if pid, is := r.s.Running(); pid != head || is != runs {
		r.t.Fatalf("Running: %d %t, want %d %t", pid, is, head, runs)
	}
	for pid := -1; pid <= 10; pid++ {
		r.regs(pid)
		r.space(pid)
	}
	r.frames()
	r.others()
}

// regs holds a process's registers against those that it should have, as they are told, and in the memory.
func (r *rig) regs(pid int) {
	r.t.Helper()
	b := r.want.find(pid)
	got, err := r.s.Regs(pid)
	if b == nil {
		if err != api.ErrNone || got != [8]api.Word{} {
			r.t.Fatalf("Regs(%d): %v %d, want %d", pid, got, err, api.ErrNone)
		}
		return
	}
	if err != api.OK || got != b.regs {
		r.t.Fatalf("Regs(%d): %v %d, want %v", pid, got, err, b.regs)
	}
	frame, slot := r.traps.From, pid-1
	for slot >= 3 {
		frame, slot = frame+1, slot-3
	}
	want := append(slices.Clone(b.regs[:]), 0, 0)
	if l, err := r.m.Page(frame); err != api.OK || !slices.Equal(l[10*slot:10*slot+10], want) {
		r.t.Fatalf("the frame %d, the slot %d: %v, want %v", frame, slot, l, want)
	}
}

// space holds a process's space and its container against those that it should have.
func (r *rig) space(pid int) {
	r.t.Helper()
	s := r.s.Spaces()
	if n := r.s.Left(pid); n != r.want.left(pid) {
		r.t.Fatalf("Left(%d): %d, want %d", pid, n, r.want.left(pid))
	}
	h, err := r.spaced(pid)
	if err != api.OK {
		// Neither a space nor a container.
		_, e := s.Load(pid, 0x8000)
		if o := s.Open(pid); e != err || o != err || len(s.Areas(pid)) != 0 || len(s.Mapped(pid)) != 0 {
			r.t.Fatalf("the space of %d: Load %d, Open %d, want %d", pid, e, o, err)
		}
		return
	}
	_, e := s.Load(pid, 0x8000)
	if o := s.Open(pid); e != api.ErrFault || o != api.ErrThere {
		r.t.Fatalf("the space of %d: Load %d, Open %d", pid, e, o)
	}
	if l := s.Areas(pid); !slices.Equal(l, h.areas()) {
		r.t.Fatalf("Areas of %d: %v, want %v", pid, l, h.areas())
	}
	if l := s.Mapped(pid); !slices.Equal(l, h.mapped()) {
		r.t.Fatalf("Mapped of %d: %v, want %v", pid, l, h.mapped())
	}
	for n, p := range h.pages {
		for i, want := range p.words {
			if w, e := s.Load(pid, api.Word(32*n+i)); w != want || e != api.OK {
				r.t.Fatalf("the word %d of the page %d of %d: %d %d, want %d", i, n, pid, w, e, want)
			}
		}
	}
}

// frames holds the partition's frames against what they should be: charged, held, free.
func (r *rig) frames() {
	r.t.Helper()
	used, frames := r.want.charged()
	left := 0
	for pid := 1; pid <= 8; pid++ {
		left += r.s.Left(pid)
	}
	if used+left != r.quota {
		r.t.Fatalf("%d are charged, %d are left, of %d", used, left, r.quota)
	}
	if n := r.own.Many - r.p.Left(1); n != frames || n > used {
		r.t.Fatalf("%d frames are held, want %d, %d are charged", n, frames, used)
	}
}

// others holds all frames that are neither the partition's nor the traps' against what they were, and what of the traps' is no slot's.
func (r *rig) others() {
	r.t.Helper()
	if r.p.Left(0) != 6 || r.p.Left(2) != 6 {
		r.t.Fatalf("of other partitions %d and %d frames are free", r.p.Left(0), r.p.Left(2))
	}
	for f := range r.m.Frames() {
		from := 0
		switch {
		case f >= r.own.From && f < r.own.From+r.own.Many:
			continue
		case f >= r.traps.From && f < r.traps.From+r.traps.Many:
			from = 30
		}
		for p := from; p < 32; p++ {
			if w, _ := r.m.Read(f, p); w != strange(f, p) {
				r.t.Fatalf("the frame %d, the place %d: %d", f, p, w)
			}
		}
	}
}

// must holds an error that was told against the one that a test is about.
func (r *rig) must(err, want api.Errno) {
	r.t.Helper()
	if err != want {
		r.t.Fatalf("error %d, want %d", err, want)
	}
	r.same()
}

// row holds the queue against one that is written out.
func (r *rig) row(want ...int) {
	r.t.Helper()
	if l := r.s.Row(); !slices.Equal(l, want) {
		r.t.Fatalf("Row: %v, want %v", l, want)
	}
	r.same()
}

// left holds what is left of a process's container against a number.
func (r *rig) left(pid, want int) {
	r.t.Helper()
	if n := r.s.Left(pid); n != want {
		r.t.Fatalf("Left(%d): %d, want %d", pid, n, want)
	}
}

// told holds registers against some that are written out.
func (r *rig) told(pid int, want ...api.Word) {
	r.t.Helper()
	got, err := r.s.Regs(pid)
	if err != api.OK || !slices.Equal(got[:len(want)], want) {
		r.t.Fatalf("Regs(%d): %v %d, want %v", pid, got, err, want)
	}
}

// conf is a partition of that quota and so many slots.
func conf(quota, slots int) api.PartConf { return api.PartConf{Quota: quota, Slots: slots} }

// refused holds New's answer against an error.
func refused(t *testing.T, s *proc.Procs, err, want api.Errno, of ...any) {
	t.Helper()
	if s != nil || err != want {
		t.Errorf("New of %v: %v %d, want %d", of, s, err, want)
	}
}

func TestNewOfNothing(t *testing.T) { // P18.1: ErrNil goes ahead of all
	m, p := over(t, 20, api.Range{From: 0, Many: 10})
	for _, part := range []int{0, 1, -1} {
		for _, traps := range []api.Range{{From: 10, Many: 1}, {From: 20, Many: 1}, {}} {
			for _, c := range []api.PartConf{conf(8, 3), conf(0, 3), conf(8, 0), conf(11, 1), {}} {
				for _, no := range []*mem.Mem{nil, {}} {
					s, err := proc.New(no, p, part, traps, c)
					refused(t, s, err, api.ErrNil, part, traps, c)
					for _, none := range []*palloc.Pool{nil, {}} {
						s, err := proc.New(no, none, part, traps, c)
						refused(t, s, err, api.ErrNil, part, traps, c)
					}
				}
				for _, no := range []*palloc.Pool{nil, {}} {
					s, err := proc.New(m, no, part, traps, c)
					refused(t, s, err, api.ErrNil, part, traps, c)
				}
			}
		}
	}
	if p.Left(0) != 10 {
		t.Errorf("%d frames are free", p.Left(0))
	}
}

func TestNewOfQuotas(t *testing.T) { // P18.1
	for quota := 1; quota <= 256; quota++ {
		m, p := over(t, 301, api.Range{From: 0, Many: 300})
		s, err := proc.New(m, p, 0, api.Range{From: 300, Many: 1}, conf(quota, 3))
		if err != api.OK || s.Left(1) != quota-1 || p.Left(0) != 299 {
			t.Errorf("New of the quota %d: %d, %d are left, %d frames are free", quota, err, s.Left(1), p.Left(0))
		}
	}
	// More frames than any quota there may be.
	m, p := over(t, 1024, api.Range{From: 0, Many: 1000})
	for _, quota := range offQuotas {
		s, err := proc.New(m, p, 0, api.Range{From: 1000, Many: 1}, conf(quota, 3))
		refused(t, s, err, api.ErrArg, quota)
	}
	if p.Left(0) != 1000 {
		t.Errorf("%d frames are free", p.Left(0))
	}
}

func TestNewOfFreeFrames(t *testing.T) { // P18.1: that many frames are free
	for quota := 1; quota <= 12; quota++ {
		for many := 1; many <= 14; many++ {
			for taken := 0; taken < many; taken++ {
				m, p := over(t, 40, api.Range{From: 30, Many: 10}, api.Range{From: 0, Many: many})
				for range taken {
					p.Alloc(1)
				}
				s, err := proc.New(m, p, 1, api.Range{From: 20, Many: 1}, conf(quota, 2))
				if many-taken < quota {
					refused(t, s, err, api.ErrArg, quota, many, taken)
					continue
				}
				if s == nil || err != api.OK || p.Left(1) != many-taken-1 || s.Left(1) != quota-1 {
					t.Errorf("New of the quota %d with %d frames, %d of them taken: %d", quota, many, taken, err)
				}
			}
		}
	}
}

func TestNewOfSlots(t *testing.T) { // P18.1
	for many := 1; many <= 8; many++ {
		r := rigged(t, 20, many)
		r.same()
		for n := 2; n <= many; n++ {
			r.must(r.spawn(1, 1, 0), api.OK)
		}
		r.must(r.spawn(1, 1, 0), api.ErrFull)
	}
	m, p := over(t, 60, api.Range{From: 0, Many: 10})
	for _, many := range off {
		s, err := proc.New(m, p, 0, api.Range{From: 10, Many: 50}, conf(8, many))
		refused(t, s, err, api.ErrArg, many)
	}
	// As many as the traps' frames have room for, but more than there may be.
	for _, many := range []int{9, 10, 150} {
		s, err := proc.New(m, p, 0, api.Range{From: 10, Many: 50}, conf(8, many))
		refused(t, s, err, api.ErrArg, many)
	}
}

func TestNewOfTraps(t *testing.T) { // P18.1: in the memory, and enough
	const frames = 12
	isThere := func(l api.Range) bool {
		for n := range l.Many {
			if f := l.From + n; f < 0 || f >= frames {
				return false
			}
		}
		return l.Many > 0
	}
	for from := -3; from <= frames+2; from++ {
		for many := -3; many <= frames+3; many++ {
			for slots := 1; slots <= 8; slots++ {
				traps, room := api.Range{From: from, Many: many}, 0
				for range many {
					room += 3
				}
				m, p := over(t, frames, api.Range{From: 0, Many: 5})
				s, err := proc.New(m, p, 0, traps, conf(4, slots))
				if !isThere(traps) || room < slots {
					refused(t, s, err, api.ErrArg, traps, slots)
					if p.Left(0) != 5 {
						t.Errorf("New of the traps %v: %d frames are free", traps, p.Left(0))
					}
				} else if s == nil || err != api.OK {
					t.Errorf("New of the traps %v, %d slots: %v %d", traps, slots, s, err)
				}
			}
		}
	}
}

func TestNewOfTrapsThatGoRound(t *testing.T) { // P18.1: numbers that are great, or go round when they are reckoned
	great := []int{math.MinInt, math.MinInt + 1, math.MinInt + 3, -1 << 62, -1<<32 + 8, -1 << 32, -8, -1, 0, 1, 3, 8, 11, 12, 1 << 31, 1 << 32, 1<<32 + 1, 1<<32 + 8, 1 << 61, math.MaxInt/3 + 1, math.MaxInt/3 + 3, 1 << 62, math.MaxInt - 8, math.MaxInt - 2, math.MaxInt - 1, math.MaxInt}
	m, p := over(t, 12, api.Range{From: 0, Many: 5})
	for _, from := range great {
		for _, many := range great {
			if from >= 0 && from < 12 && many >= 1 && many <= 12-from {
				continue
			}
			for _, slots := range []int{1, 3, 8} {
				traps := api.Range{From: from, Many: many}
				s, err := proc.New(m, p, 0, traps, conf(4, slots))
				refused(t, s, err, api.ErrArg, traps, slots)
			}
		}
	}
	if p.Left(0) != 5 {
		t.Errorf("%d frames are free", p.Left(0))
	}
}

func TestNewOfPartitions(t *testing.T) { // P18.1
	for _, part := range append([]int{3, 4, 7, 8}, off...) {
		m, p := over(t, 40, api.Range{From: 0, Many: 10}, api.Range{From: 10, Many: 10}, api.Range{From: 20, Many: 10})
		s, err := proc.New(m, p, part, api.Range{From: 30, Many: 1}, conf(4, 1))
		if part == 0 {
			if s == nil || err != api.OK {
				t.Errorf("New of the partition 0: %d", err)
			}
			continue
		}
		refused(t, s, err, api.ErrArg, part)
	}
	for part := range 3 {
		m, p := over(t, 40, api.Range{From: 0, Many: 10}, api.Range{From: 10, Many: 10}, api.Range{From: 20, Many: 10})
		s, err := proc.New(m, p, part, api.Range{From: 30, Many: 1}, conf(10, 1))
		if s == nil || err != api.OK {
			t.Fatalf("New of the partition %d: %d", part, err)
		}
		for other := range 3 {
			want := 10
			if other == part {
				want = 9
			}
			if p.Left(other) != want {
				t.Errorf("New of the partition %d: of %d %d frames are free", part, other, p.Left(other))
			}
		}
	}
}

func TestNewRefusedChangesNothing(t *testing.T) { // P18.1
	m, p := over(t, 40, api.Range{From: 0, Many: 10}, api.Range{From: 10, Many: 10})
	p.Alloc(0)
	traps := api.Range{From: 20, Many: 1}
	good := conf(9, 3)
	try := func(part int, traps api.Range, c api.PartConf) {
		t.Helper()
		s, err := proc.New(m, p, part, traps, c)
		refused(t, s, err, api.ErrArg, part, traps, c)
	}
	try(2, traps, good)
	try(-1, traps, good)
	try(0, traps, conf(10, 3))
	try(0, traps, conf(0, 3))
	try(0, traps, conf(9, 4))
	try(0, traps, conf(9, 0))
	try(0, api.Range{From: 40, Many: 1}, good)
	try(0, api.Range{From: 39, Many: 2}, good)
	try(0, api.Range{From: 20}, good)
	for f := range 40 {
		for place := range 32 {
			want := strange(f, place)
			if f == 0 {
				want = 0
			}
			if w, _ := m.Read(f, place); w != want {
				t.Errorf("the frame %d, the place %d: %d", f, place, w)
			}
		}
	}
	if p.Left(0) != 9 || p.Left(1) != 10 {
		t.Errorf("%d and %d frames are free", p.Left(0), p.Left(1))
	}
}

func TestBegins(t *testing.T) { // P18.1, P18.2
	for _, quota := range []int{1, 2, 4, 9, 256} {
		for slots := 1; slots <= 8; slots++ {
			r := rigged(t, quota, slots)
			r.row(1)
			r.left(1, quota-1)
			r.told(1, 0, 0, 0, 0, 0, 0, 0, 0)
			if l := r.s.All(); !slices.Equal(l, []api.Proc{{Pid: 1, State: api.Ready}}) {
				t.Errorf("All: %v", l)
			}
			if pid, is := r.s.Running(); pid != 1 || !is {
				t.Errorf("Running: %d %t", pid, is)
			}
			if n := r.p.Left(1); n != quota-1 {
				t.Errorf("%d frames are free", n)
			}
		}
	}
}

func TestOfNothing(t *testing.T) { // ErrNil goes ahead of all, and nothing is told
	for _, s := range []*proc.Procs{nil, {}} {
		for _, pid := range append([]int{1, 2}, off...) {
			for _, quota := range []int{0, 1, 256, 257} {
				if n, err := s.Fork(pid, quota); n != 0 || err != api.ErrNil {
					t.Errorf("Fork: %d %d", n, err)
				}
				if n, err := s.Spawn(pid, quota, 7); n != 0 || err != api.ErrNil {
					t.Errorf("Spawn: %d %d", n, err)
				}
				if err := s.Put(pid, quota, 7); err != api.ErrNil {
					t.Errorf("Put: %d", err)
				}
				if err := s.Kill(pid, quota, 7); err != api.ErrNil {
					t.Errorf("Kill: %d", err)
				}
			}
			if l, err := s.Regs(pid); l != [8]api.Word{} || err != api.ErrNil {
				t.Errorf("Regs: %v %d", l, err)
			}
			if err := s.Exit(pid, 7); err != api.ErrNil {
				t.Errorf("Exit: %d", err)
			}
			if err := s.Wait(pid); err != api.ErrNil {
				t.Errorf("Wait: %d", err)
			}
			if n := s.Left(pid); n != 0 {
				t.Errorf("Left: %d", n)
			}
		}
		s.Turn()
		if pid, is := s.Running(); pid != 0 || is {
			t.Errorf("Running: %d %t", pid, is)
		}
		if len(s.All()) != 0 || len(s.Row()) != 0 || s.Spaces() != nil {
			t.Errorf("All, Row, Spaces: %v %v %v", s.All(), s.Row(), s.Spaces())
		}
	}
}

// three is the processes 1, 2 and 3 of 40, with registers of their own, of which 2 has the child 3, and a free slot.
func three(t *testing.T) *rig {
	t.Helper()
	r := rigged(t, 40, 4)
	r.fork(1, 20)
	r.fork(2, 9)
	for pid := 1; pid <= 3; pid++ {
		r.mark(pid)
		r.grow(pid, pid, 2, true)
		r.store(pid, api.Word(32*pid+pid), api.Word(100*pid))
	}
	r.row(1, 2, 3)
	return r
}

func TestProcessesThatThereAreNot(t *testing.T) { // ErrNone, and nothing changes
	r := three(t)
	for _, pid := range append([]int{4, 5, 6, 7, 8}, off...) {
		r.must(r.fork(pid, 5), api.ErrNone)
		r.must(r.spawn(pid, 5, 7), api.ErrNone)
		r.must(r.exit(pid, 7), api.ErrNone)
		r.must(r.wait(pid), api.ErrNone)
		r.must(r.put(pid, 0, 7), api.ErrNone)
		r.must(r.kill(1, pid, 7), api.ErrNone)
		r.must(r.kill(pid, 2, 7), api.ErrNone)
		r.must(r.kill(pid, pid, 7), api.ErrNone)
		if l, err := r.s.Regs(pid); l != [8]api.Word{} || err != api.ErrNone {
			t.Errorf("Regs(%d): %v %d", pid, l, err)
		}
		r.left(pid, 0)
	}
}

func TestErrArgIsFirst(t *testing.T) { // P18.3, P18.4: ahead of ErrNone, ErrState and ErrFull
	r := three(t)
	r.wait(2)
	r.spawn(1, 5, 0)
	r.exit(3, 1)
	r.exit(4, 1)
	for _, pid := range append([]int{1, 2, 3, 4, 5, 6}, off...) {
		for _, quota := range offQuotas {
			r.answers(r.fork(pid, quota), api.ErrArg, "Fork", pid, quota)
			r.answers(r.spawn(pid, quota, 7), api.ErrArg, "Spawn", pid, quota)
		}
		for _, reg := range offRegs {
			r.answers(r.put(pid, reg, 7), api.ErrArg, "Put", pid, reg)
		}
	}
	r.same()
}

func TestTurn(t *testing.T) { // P18.2
	r := rigged(t, 20, 8)
	for n := 2; n <= 8; n++ {
		r.turn()
		r.row(1)
		r.spawn(1, 1, 0)
		r.exit(2, 0)
		r.wait(1)
	}
	for n := 2; n <= 8; n++ {
		r.spawn(1, 1, 0)
	}
	r.row(1, 2, 3, 4, 5, 6, 7, 8)
	for range 3 {
		r.turn()
		r.same()
	}
	r.row(4, 5, 6, 7, 8, 1, 2, 3)
	for range 5 {
		r.turn()
		r.same()
	}
	r.row(1, 2, 3, 4, 5, 6, 7, 8)
	// Who runs is the head, whoever that is.
	r.turn()
	r.exit(2, 0)
	r.row(3, 4, 5, 6, 7, 8, 1)
	r.turn()
	r.row(4, 5, 6, 7, 8, 1, 3)
}

func TestSomebodyRuns(t *testing.T) { // P18.2, P18.6: all wait but one, and once that has ended, one learned something
	r := rigged(t, 20, 4)
	r.spawn(1, 12, 0)
	r.spawn(2, 6, 0)
	r.spawn(3, 2, 0)
	for pid := 1; pid <= 3; pid++ {
		r.must(r.wait(pid), api.OK)
	}
	r.row(4)
	r.turn()
	r.row(4)
	r.must(r.wait(4), api.ErrNone)
	r.exit(4, 9)
	r.row(3)
	r.told(3, 0, 4, 9)
	r.exit(3, 8)
	r.row(2)
	r.told(2, 0, 3, 8)
	r.exit(2, 7)
	r.row(1)
	r.told(1, 0, 2, 7)
	r.left(1, 19)
}

func TestRegs(t *testing.T) { // P18.3: each register of each process, and no other one
	for slots := 1; slots <= 8; slots++ {
		r := rigged(t, 20, slots)
		for n := 2; n <= slots; n++ {
			r.spawn(1, 1, api.Word(n))
		}
		for pid := 1; pid <= slots; pid++ {
			for reg := range 8 {
				for _, w := range words {
					r.must(r.put(pid, reg, w), api.OK)
				}
				r.must(r.put(pid, reg, api.Word(100*pid+reg)), api.OK)
			}
		}
	}
}

func TestRegsOfAllStates(t *testing.T) { // P18.3: of who waits, and of a zombie, too
	r := three(t)
	r.wait(2)
	r.must(r.put(2, 3, 77), api.OK)
	r.must(r.put(2, 0, 78), api.OK)
	r.told(2, 78, 2015, 2025, 77)
	r.fork(1, 4)
	r.mark(4)
	r.exit(4, 9)
	r.told(4, 4005, 4015, 4025)
	r.must(r.put(4, 7, 79), api.OK)
	for _, pid := range []int{2, 4} {
		for _, reg := range offRegs {
			r.must(r.put(pid, reg, 1), api.ErrArg)
		}
	}
}

func TestRegsAreInTheMemory(t *testing.T) { // the process p in the traps' frame (p - 1) / 3, the slot (p - 1) modulo 3
	frames := []int{0, 0, 0, 0, 1, 1, 1, 2, 2}
	begins := []int{0, 0, 10, 20, 0, 10, 20, 0, 10}
	r := rigged(t, 20, 8)
	for n := 2; n <= 8; n++ {
		r.spawn(1, 1, 0)
	}
	for pid := 1; pid <= 8; pid++ {
		r.mark(pid)
		frame, begin := r.traps.From+frames[pid], begins[pid]
		for reg := range 8 {
			want := api.Word(1000*pid + 10*reg + 5)
			if w, _ := r.m.Read(frame, begin+reg); w != want {
				t.Errorf("the register %d of %d: %d, want %d", reg, pid, w, want)
			}
			r.m.Write(frame, begin+reg, want+1)
			r.want.at[pid].regs[reg] = want + 1
			r.same()
		}
		for place := begin + 8; place < begin+10; place++ {
			if w, _ := r.m.Read(frame, place); w != 0 {
				t.Errorf("Cause and Arg of %d: %d", pid, w)
			}
		}
	}
}

func TestMoreTrapsThanNeeded(t *testing.T) { // P18.1, P18.3: the frames behind those that are needed are left alone
	m, p := over(t, 40, api.Range{From: 0, Many: 20})
	s, err := proc.New(m, p, 0, api.Range{From: 25, Many: 10}, conf(20, 5))
	if err != api.OK {
		t.Fatalf("New: %d", err)
	}
	for n := 2; n <= 5; n++ {
		s.Spawn(1, 1, 0)
	}
	for pid := 1; pid <= 5; pid++ {
		for reg := range 8 {
			s.Put(pid, reg, 7)
		}
	}
	for f := 20; f < 40; f++ {
		for place := range 32 {
			w, _ := m.Read(f, place)
			switch {
			case f < 25 || f > 26 || place >= 30:
				if w != strange(f, place) {
					t.Errorf("the frame %d, the place %d: %d", f, place, w)
				}
			case f == 26 && place >= 20:
			case place%10 < 8 && w != 7 || place%10 >= 8 && w != 0:
				t.Errorf("the frame %d, the place %d: %d", f, place, w)
			}
		}
	}
}

func TestForkAndSpawnOfWhoIsNotReady(t *testing.T) { // P18.4: ErrState goes ahead of ErrFull
	r := three(t)
	r.spawn(1, 2, 0)
	r.exit(4, 7)
	r.wait(2)
	// 2 waits, 4 is a zombie; some of these quotas there are, some are less than what is charged, some are more than what is left.
	for _, quota := range []int{1, 2, 4, 5, 10, 11, 20, 21, 256} {
		for _, pid := range []int{2, 4} {
			r.must(r.fork(pid, quota), api.ErrState)
			r.must(r.spawn(pid, quota, 7), api.ErrState)
		}
	}
	// And with no free slot.
	r = rigged(t, 20, 3)
	r.spawn(1, 6, 0)
	r.spawn(2, 2, 0)
	r.wait(2)
	r.must(r.fork(2, 1), api.ErrState)
	r.must(r.spawn(2, 1, 0), api.ErrState)
	r.must(r.spawn(1, 1, 0), api.ErrFull)
	// Who learned is ready again.
	r.exit(3, 0)
	r.must(r.fork(2, 1), api.OK)
}

func TestNoFreeSlot(t *testing.T) { // P18.4: zombies have theirs till they are learned of
	for slots := 1; slots <= 8; slots++ {
		r := rigged(t, 40, slots)
		for n := 2; n <= slots; n++ {
			r.must(r.fork(1, 2), api.OK)
		}
		r.must(r.fork(1, 2), api.ErrFull)
		r.must(r.spawn(1, 2, 7), api.ErrFull)
		for n := 2; n <= slots; n++ {
			r.exit(n, 0)
			r.must(r.fork(1, 2), api.ErrFull)
			r.must(r.spawn(1, 2, 7), api.ErrFull)
		}
		for n := 2; n <= slots; n++ {
			r.must(r.wait(1), api.OK)
			r.must(r.spawn(1, 2, 7), api.OK)
			r.must(r.fork(1, 2), api.ErrFull)
		}
	}
}

func TestForkOfTooLittle(t *testing.T) { // P18.4: less than quota is left of the container, or quota is less than what is charged
	for pages := 0; pages <= 5; pages++ {
		r := rigged(t, 30, 4)
		r.grow(1, 30, 6, true)
		for n := range pages {
			r.store(1, api.Word(32*(30+n)), 7)
		}
		charged := 30 - r.s.Left(1)
		for quota := 1; quota < charged; quota++ {
			r.must(r.fork(1, quota), api.ErrFull)
		}
		for quota := r.s.Left(1) + 1; quota <= 40; quota++ {
			r.must(r.fork(1, quota), api.ErrFull)
			r.must(r.spawn(1, quota, 0), api.ErrFull)
		}
		r.must(r.fork(1, charged), api.OK)
		r.left(2, 0)
		r.left(1, 30-2*charged)
		r.must(r.fork(1, r.s.Left(1)+1), api.ErrFull)
		r.must(r.spawn(1, r.s.Left(1)+1, 0), api.ErrFull)
		r.must(r.fork(1, r.s.Left(1)), api.OK)
		r.left(1, 0)
		r.left(3, 30-3*charged)
		for _, quota := range []int{1, charged, 256} {
			r.must(r.fork(1, quota), api.ErrFull)
			r.must(r.spawn(1, quota, 0), api.ErrFull)
		}
	}
}

func TestSpawnOfTheLeast(t *testing.T) { // P18.4: a quota of 1 is enough, whatever its parent is charged
	r := rigged(t, 20, 3)
	r.grow(1, 0, 4, true)
	for n := range 4 {
		r.store(1, api.Word(32*n), 7)
	}
	r.must(r.fork(1, 1), api.ErrFull)
	r.must(r.spawn(1, 1, 7), api.OK)
	r.left(2, 0)
	r.left(1, 13)
	r.must(r.fork(2, 1), api.ErrFull)
	r.must(r.spawn(2, 1, 0), api.ErrFull)
	r.must(r.grow(2, 0, 1, true), api.OK)
	r.must(r.load(2, 0), api.ErrFull)
	r.must(r.spawn(1, 13, 7), api.OK)
	r.left(1, 0)
}

func TestQuotaOfAll(t *testing.T) { // P18.4: MaxQuota is more than is ever left
	r := rigged(t, 256, 3)
	r.must(r.fork(1, 256), api.ErrFull)
	r.must(r.spawn(1, 256, 0), api.ErrFull)
	r.must(r.fork(1, 255), api.OK)
	r.left(1, 0)
	r.left(2, 254)
	r.must(r.spawn(2, 254, 0), api.OK)
	r.left(3, 253)
}

func TestFork(t *testing.T) { // P18.4
	r := rigged(t, 40, 8)
	r.grow(1, 1, 2, true)
	r.grow(1, 3, 1, false)
	r.store(1, 40, 11)
	r.load(1, 96)
	r.mark(1)
	r.must(r.fork(1, 10), api.OK)
	r.row(1, 2)
	r.told(2, 0, 0, 1025, 1035, 1045, 1055, 1065, 1075)
	r.told(1, 1005, 1015, 1025, 1035, 1045, 1055, 1065, 1075)
	r.left(1, 26)
	r.left(2, 6)
	if n := 40 - r.p.Left(1); n != 6 {
		t.Errorf("%d frames are held, want 6: pages are shared", n)
	}
	// Each one's own from then on: words, areas, registers.
	r.must(r.store(2, 40, 12), api.OK)
	r.must(r.store(1, 41, 13), api.OK)
	r.must(r.store(2, 96, 13), api.ErrPerm)
	r.must(r.grow(2, 4, 1, true), api.OK)
	r.must(r.shrink(1, 1, 1), api.OK)
	r.must(r.put(1, 7, 1), api.OK)
	r.must(r.put(2, 6, 2), api.OK)
	// Of who is not the first one, and does not run.
	r.must(r.fork(2, 5), api.OK)
	r.row(1, 2, 3)
	r.told(3, 0, 0, 1025, 1035, 1045, 1055, 2, 1075)
	if l := r.s.All(); l[2] != (api.Proc{Pid: 3, Parent: 2, State: api.Ready}) {
		t.Errorf("All: %v", l)
	}
	r.turn()
	r.must(r.fork(1, 5), api.OK)
	r.row(2, 3, 1, 4)
}

func TestSpawn(t *testing.T) { // P18.4
	r := rigged(t, 40, 8)
	r.grow(1, 1, 2, true)
	r.store(1, 40, 11)
	r.mark(1)
	for i, arg := range []api.Word{0, 7, math.MaxUint32} {
		r.must(r.spawn(1, 5, arg), api.OK)
		r.told(2+i, 0, arg, 0, 0, 0, 0, 0, 0)
		r.left(2+i, 4)
	}
	r.told(1, 1005, 1015, 1025, 1035, 1045, 1055, 1065, 1075)
	r.left(1, 22)
	r.row(1, 2, 3, 4)
	r.must(r.load(2, 40), api.ErrFault)
	r.mark(3)
	r.must(r.spawn(3, 2, 9), api.OK)
	r.told(5, 0, 9, 0, 0, 0, 0, 0, 0)
	if l := r.s.All(); l[4] != (api.Proc{Pid: 5, Parent: 3, State: api.Ready}) {
		t.Errorf("All: %v", l)
	}
	r.left(3, 2)
}

func TestNumbersAreTakenAgain(t *testing.T) { // P18.4: the least free number; nothing is left of who had it
	r := rigged(t, 40, 5)
	for n := 2; n <= 5; n++ {
		r.fork(1, 8)
		r.mark(n)
		r.grow(n, n, 1, true)
		r.store(n, api.Word(32*n), 7)
	}
	r.exit(4, 1)
	r.exit(2, 1)
	r.wait(1)
	r.wait(1)
	r.row(1, 3, 5)
	r.must(r.spawn(3, 1, 8), api.OK)
	r.row(1, 3, 5, 2)
	r.told(2, 0, 8, 0, 0, 0, 0, 0, 0)
	r.must(r.fork(5, 3), api.OK)
	r.row(1, 3, 5, 2, 4)
	r.told(4, 0, 0, 5025, 5035, 5045, 5055, 5065, 5075)
	r.must(r.fork(1, 5), api.ErrFull)
}

func TestExit(t *testing.T) { // P18.5, P18.7
	for _, code := range words {
		r := three(t)
		free := r.p.Left(1)
		r.must(r.exit(3, code), api.OK)
		r.row(1, 2)
		if l := r.s.All(); l[2] != (api.Proc{Pid: 3, Parent: 2, State: api.Zombie, Code: code}) {
			t.Errorf("All: %v", l)
		}
		r.left(3, 0)
		r.told(3, 3005, 3015, 3025)
		if r.p.Left(1) <= free {
			t.Errorf("%d frames are free, it were %d", r.p.Left(1), free)
		}
		r.must(r.exit(3, 1), api.ErrState)
		r.must(r.exit(1, 1), api.ErrPerm)
		r.must(r.wait(3), api.ErrNone)
	}
}

func TestExitOfWhoRuns(t *testing.T) { // P18.5: who stands anywhere in the row
	for turns := range 4 {
		for pid := 2; pid <= 4; pid++ {
			r := rigged(t, 40, 4)
			for range 3 {
				r.spawn(1, 3, 0)
			}
			for range turns {
				r.turn()
			}
			r.must(r.exit(pid, 5), api.OK)
			if slices.Contains(r.s.Row(), pid) || len(r.s.Row()) != 3 {
				t.Errorf("Row: %v", r.s.Row())
			}
		}
	}
}

func TestExitOfWhoWaits(t *testing.T) { // P18.5: it stood in no queue, and learns nothing any more
	r := three(t)
	r.wait(2)
	r.row(1, 3)
	r.must(r.exit(2, 7), api.OK)
	r.row(1, 3)
	r.told(2, 2005, 2015, 2025)
	r.must(r.exit(3, 8), api.OK)
	r.row(1)
	r.told(2, 2005, 2015, 2025)
	r.must(r.wait(1), api.OK)
	r.told(1, 0, 2, 7)
	r.must(r.wait(1), api.OK)
	r.told(1, 0, 3, 8)
	r.must(r.wait(1), api.ErrNone)
	r.left(1, 37)
}

func TestWhoLearns(t *testing.T) { // P18.5: behind all; R0 to R2, and no other register
	r := three(t)
	r.spawn(1, 2, 0)
	r.wait(1)
	r.row(2, 3, 4)
	r.must(r.exit(4, 0xfffffffe), api.OK)
	r.row(2, 3, 1)
	r.told(1, 0, 4, 0xfffffffe, 1035, 1045, 1055, 1065, 1075)
	r.told(2, 2005, 2015, 2025)
	// Nobody learns who did not wait.
	r.must(r.exit(3, 6), api.OK)
	r.row(2, 1)
	r.told(2, 2005, 2015, 2025)
}

func TestTwoLearnAtOnce(t *testing.T) { // P18.5: by rising numbers, each what it should
	r := rigged(t, 60, 4)
	r.fork(1, 40)
	r.fork(2, 30)
	r.fork(3, 10)
	for pid := 1; pid <= 4; pid++ {
		r.mark(pid)
	}
	r.exit(4, 44)
	for _, pid := range []int{2, 1} {
		r.wait(pid)
	}
	r.row(3)
	// 4 is a zombie among the children of 3, and becomes 1's.
	r.must(r.exit(3, 33), api.OK)
	r.row(1, 2)
	r.told(1, 0, 4, 44, 1035)
	r.told(2, 0, 3, 33, 2035)
	r.left(2, 39)
	r.left(1, 19)
}

func TestTheirOrder(t *testing.T) { // P18.5: who ended stands in the queue no more, then others come behind all
	r := rigged(t, 60, 6)
	r.spawn(1, 30, 0)
	r.spawn(2, 3, 0)
	r.spawn(1, 3, 0)
	r.spawn(2, 3, 0)
	r.wait(2)
	r.wait(1)
	r.row(3, 4, 5)
	r.exit(5, 1)
	r.row(3, 4, 2)
	r.exit(4, 2)
	r.row(3, 2, 1)
	r.exit(3, 3)
	r.row(2, 1)
	r.must(r.wait(2), api.OK)
	r.row(2, 1)
	r.told(2, 0, 3, 3)
}

func TestWait(t *testing.T) { // P18.6
	r := three(t)
	r.must(r.wait(3), api.ErrNone)
	r.must(r.wait(1), api.OK)
	r.row(2, 3)
	r.told(1, 1005, 1015, 1025)
	r.must(r.wait(1), api.ErrState)
	r.must(r.wait(2), api.OK)
	r.row(3)
	r.must(r.wait(2), api.ErrState)
	r.exit(3, 0)
	r.row(2)
	r.must(r.wait(2), api.ErrNone)
	r.must(r.exit(2, 1), api.OK)
	r.row(1)
	r.must(r.wait(2), api.ErrNone)
}

func TestWaitForWhoEnded(t *testing.T) { // P18.6: it stands where it stood, and learns of the least one
	for turns := range 5 {
		r := rigged(t, 60, 7)
		r.mark(1)
		for range 4 {
			r.spawn(1, 3, 0)
		}
		for range turns {
			r.turn()
		}
		r.exit(4, 40)
		r.exit(2, 20)
		row := r.s.Row()
		r.must(r.wait(1), api.OK)
		r.told(1, 0, 2, 20, 1035, 1045, 1055, 1065, 1075)
		r.row(row...)
		r.must(r.wait(1), api.OK)
		r.told(1, 0, 4, 40, 1035, 1045, 1055, 1065, 1075)
		r.row(row...)
		r.must(r.wait(1), api.OK)
		r.row(slices.DeleteFunc(row, func(n int) bool { return n == 1 })...)
	}
}

func TestKill(t *testing.T) { // P18.5
	r := three(t)
	r.spawn(1, 2, 0)
	// No child of its own: itself, its parent, another one's, one of a process that there is not.
	for _, l := range [][2]int{{1, 3}, {2, 4}, {3, 2}, {3, 1}, {2, 1}, {2, 2}, {3, 3}, {1, 1}, {4, 2}, {5, 2}, {0, 2}, {0, 3}, {-1, 2}, {9, 3}} {
		r.must(r.kill(l[0], l[1], 7), api.ErrNone)
	}
	for _, pid := range off {
		r.must(r.kill(pid, 2, 7), api.ErrNone)
		r.must(r.kill(pid, 3, 7), api.ErrNone)
	}
	// The Parent of 1 is 0.
	r.must(r.kill(0, 1, 7), api.ErrPerm)
	r.must(r.kill(2, 3, 7), api.OK)
	r.row(1, 2, 4)
	r.must(r.kill(2, 3, 8), api.ErrState)
	if l := r.s.All(); l[2] != (api.Proc{Pid: 3, Parent: 2, State: api.Zombie, Code: 7}) {
		t.Errorf("All: %v", l)
	}
	r.wait(2)
	r.must(r.kill(2, 3, 8), api.ErrNone)
	r.must(r.kill(1, 4, 9), api.OK)
	r.row(1, 2)
}

func TestKillByWhoWaits(t *testing.T) { // P18.5: that is asked of nobody; it learns of it
	r := three(t)
	r.wait(1)
	r.must(r.kill(1, 2, 5), api.OK)
	r.row(3, 1)
	r.told(1, 0, 2, 5)
	// What was a child of 2 is one of 1 now, and may be killed as such.
	r.must(r.kill(2, 3, 6), api.ErrNone)
	r.must(r.kill(1, 3, 6), api.OK)
	r.row(1)
}

func TestKillOfWhoWaits(t *testing.T) { // P18.5
	r := three(t)
	r.wait(2)
	r.must(r.kill(1, 2, 5), api.OK)
	r.row(1, 3)
	r.must(r.wait(1), api.OK)
	r.told(1, 0, 2, 5)
}

func TestContainersOfWhoEnds(t *testing.T) { // P18.5: what was carved from it is carved from what it was carved from
	r := rigged(t, 60, 8)
	r.spawn(1, 40, 0)
	r.spawn(2, 30, 0)
	r.spawn(3, 20, 0)
	r.spawn(4, 10, 0)
	for pid, want := range map[int]int{1: 19, 2: 9, 3: 9, 4: 9, 5: 9} {
		r.left(pid, want)
	}
	// 4 becomes a child of 1, but its container is carved from that of 2.
	r.must(r.exit(3, 0), api.OK)
	r.left(2, 19)
	r.left(1, 19)
	r.must(r.exit(4, 0), api.OK)
	r.left(2, 29)
	r.left(1, 19)
	r.must(r.exit(2, 0), api.OK)
	r.left(1, 49)
	r.left(5, 9)
	r.must(r.exit(5, 0), api.OK)
	r.left(1, 59)
	// A number that is taken again has nothing to do with the one that had it.
	for range 4 {
		r.must(r.wait(1), api.OK)
	}
	r.must(r.fork(1, 40), api.OK)
	r.must(r.fork(2, 39), api.OK)
	r.left(1, 19)
	r.left(2, 0)
	r.left(3, 38)
}

// snap is what is left of each process, and how often each frame is held.
func (r *rig) snap() (left, refs []int) {
	for pid := range 9 {
		left = append(left, r.s.Left(pid))
	}
	for f := range r.m.Frames() {
		refs = append(refs, r.p.Refs(f))
	}
	return left, refs
}

func TestNothingIsLost(t *testing.T) { // P18.8
	lives := []func(r *rig, pid int){
		func(*rig, int) {},
		func(r *rig, pid int) {
			r.grow(pid, 40, 3, true)
			for n := range 3 {
				r.store(pid, api.Word(32*(40+n)), 9)
			}
		},
		func(r *rig, pid int) {
			for n := range 4 {
				r.store(pid, api.Word(32*n), 8)
			}
		},
		func(r *rig, pid int) {
			r.store(pid, 0, 8)
			r.shrink(pid, 0, 2)
			r.mark(pid)
			r.turn()
		},
		func(r *rig, pid int) {
			r.fork(pid, 12)
			r.store(4, 0, 7)
			r.fork(4, 6)
			r.store(pid, 32, 7)
			r.exit(4, 3)
			r.wait(pid)
			r.exit(5, 2)
			r.wait(1)
		},
		func(r *rig, pid int) {
			r.spawn(pid, 12, 6)
			r.wait(pid)
			r.kill(pid, 4, 3)
			r.fork(pid, 12)
			r.exit(4, 3)
		},
	}
	for parent := 1; parent <= 2; parent++ {
		for i, life := range lives {
			for forked := range 2 {
				r := rigged(t, 100, 6)
				r.grow(1, 0, 3, true)
				for n := range 3 {
					r.store(1, api.Word(32*n+n), api.Word(50+n))
				}
				r.fork(1, 60)
				r.store(2, 5, 6)
				left, refs := r.snap()
				if forked == 1 {
					r.must(r.fork(parent, 30), api.OK)
				} else {
					r.must(r.spawn(parent, 30, 5), api.OK)
				}
				life(r, 3)
				r.same()
				r.must(r.exit(3, 1), api.OK)
				for r.want.ended(parent) != nil {
					r.must(r.wait(parent), api.OK)
				}
				r.wait(1)
				gotLeft, gotRefs := r.snap()
				if !slices.Equal(gotLeft, left) || !slices.Equal(gotRefs, refs) {
					t.Errorf("the life %d of a child of %d (forked: %d): left %v, held %v, it was %v, %v", i, parent, forked, gotLeft, gotRefs, left, refs)
				}
			}
		}
	}
}

func TestAllIsGivenBack(t *testing.T) { // P18.8: once all but 1 have ended, and that has given up its areas
	for seed := range 40 {
		r, x := rigged(t, 60, 8), random(seed)
		for range 300 {
			r.step(&x)
		}
		for pid := 2; pid <= 8; pid++ {
			r.exit(pid, 0)
		}
		for r.want.ended(1) != nil {
			r.must(r.wait(1), api.OK)
		}
		for _, a := range r.s.Spaces().Areas(1) {
			r.shrink(1, a.From, a.Many)
		}
		r.left(1, 59)
		r.row(1)
		if n := r.p.Left(1); n != 59 {
			t.Errorf("the row %d: %d frames are free", seed, n)
		}
		if l := r.s.All(); len(l) != 1 {
			t.Errorf("All: %v", l)
		}
	}
}

func TestAnswersAreNew(t *testing.T) { // P18.2
	r := three(t)
	all, row := r.s.All(), r.s.Row()
	wasAll, wasRow := slices.Clone(all), slices.Clone(row)
	r.turn()
	r.wait(2)
	r.exit(3, 4)
	if !slices.Equal(all, wasAll) || !slices.Equal(row, wasRow) {
		t.Errorf("what was told: %v %v, it was %v %v", all, row, wasAll, wasRow)
	}
	all, row = r.s.All(), r.s.Row()
	all[0], row[0] = api.Proc{Pid: 7}, 7
	_ = append(all[:1], make([]api.Proc, cap(all)-1)...)
	_ = append(row[:1], make([]int, cap(row)-1)...)
	r.same()
}

func TestTableIsNobodyElses(t *testing.T) { // P18.7: nothing adds a process that has neither a container nor a space
	var s any = rigged(t, 20, 3).s
	if _, is := s.(interface {
		Add(int) (int, api.Errno)
	}); is {
		t.Errorf("the table's Add is the processes' own")
	}
}

func TestSpaces(t *testing.T) { // P18.2: they are always the same
	r := three(t)
	s := r.s.Spaces()
	r.spawn(1, 4, 0)
	r.exit(3, 0)
	if r.s.Spaces() != s {
		t.Errorf("other spaces")
	}
	if err := s.Grow(4, api.Area{From: 9, Many: 1, Write: true}); err != api.OK {
		t.Errorf("Grow: %d", err)
	}
	if l := r.s.Spaces().Areas(4); !slices.Equal(l, []api.Area{{From: 9, Many: 1, Write: true}}) {
		t.Errorf("Areas: %v", l)
	}
}

func TestTwoPartitions(t *testing.T) { // what one does changes nothing of the other one, in one memory and pool
	m, p := over(t, 60, api.Range{From: 0, Many: 20}, api.Range{From: 20, Many: 20})
	var all []*proc.Procs
	for part := range 2 {
		s, err := proc.New(m, p, part, api.Range{From: 50 + part, Many: 1}, conf(20, 3))
		if err != api.OK {
			t.Fatalf("New: %d", err)
		}
		all = append(all, s)
	}
	a, b := all[0], all[1]
	for reg := range 8 {
		b.Put(1, reg, api.Word(70+reg))
	}
	regs, _ := b.Regs(1)
	a.Put(1, 3, 5)
	a.Spaces().Grow(1, api.Area{From: 0, Many: 2, Write: true})
	a.Spaces().Store(1, 3, 5)
	if n, err := a.Fork(1, 9); n != 2 || err != api.OK {
		t.Errorf("Fork: %d %d", n, err)
	}
	a.Wait(1)
	if got, _ := b.Regs(1); got != regs || p.Left(1) != 19 || b.Left(1) != 19 || !slices.Equal(b.Row(), []int{1}) || len(b.All()) != 1 {
		t.Errorf("the other one: %v, %d, %d, %v, %v", got, p.Left(1), b.Left(1), b.Row(), b.All())
	}
	if n, err := b.Spawn(1, 4, 8); n != 2 || err != api.OK {
		t.Errorf("Spawn: %d %d", n, err)
	}
	if err := b.Kill(1, 2, 3); err != api.OK {
		t.Errorf("Kill: %d", err)
	}
	if !slices.Equal(a.Row(), []int{2}) || a.Left(2) != 6 || p.Left(0) != 15 {
		t.Errorf("the first one: %v, %d, %d", a.Row(), a.Left(2), p.Left(0))
	}
}

// holds holds P18.7 of what is told alone.
func (r *rig) holds() {
	r.t.Helper()
	var ready []int
	for _, p := range r.s.All() {
		if p.State == api.Ready {
			ready = append(ready, p.Pid)
		}
		_, err := r.s.Spaces().Load(p.Pid, 0x8000)
		if isThere := err == api.ErrFault; isThere != (p.State != api.Zombie) {
			r.t.Fatalf("%v: has it a space? %t", p, isThere)
		}
	}
	row := r.s.Row()
	slices.Sort(row)
	if !slices.Equal(row, ready) {
		r.t.Fatalf("in the queue are %v, ready are %v", row, ready)
	}
}

// step does something, of which most may be done; few pages, so that they meet.
func (r *rig) step(x *random) {
	r.t.Helper()
	pid, other := 1+x.below(r.want.slots), 1+x.below(r.want.slots)
	if x.below(40) == 0 {
		pid = pick(x, off)
	}
	quota := 1 + x.below(max(r.s.Left(pid), 2))
	switch x.below(20) {
	case 0:
		quota = pick(x, offQuotas)
	case 1:
		quota = 1 + x.below(256)
	}
	page, write := pick(x, []int{0, 1, 2, 31, 32, 33, 1023}), x.below(4) > 0
	va, w := api.Word(32*page+x.below(32)), pick(x, words)+api.Word(x.below(3))
	switch x.below(22) {
	case 0, 1, 2:
		r.fork(pid, quota)
	case 3, 4:
		r.spawn(pid, quota, w)
	case 5:
		r.exit(pid, w)
	case 6, 7, 8:
		r.wait(pid)
	case 9, 10:
		if b := r.want.find(other); b != nil && x.below(4) > 0 {
			pid = b.Parent
		}
		r.kill(pid, other, w)
	case 11:
		r.put(pid, x.below(10)-1, w)
	case 12, 13:
		r.turn()
	case 14, 15:
		r.grow(pid, page, 1, write)
	case 16:
		r.shrink(pid, page, 1)
	case 17:
		r.load(pid, va)
	default:
		r.store(pid, va, w)
	}
}

func TestRowsOfSteps(t *testing.T) { // P18.1 to P18.8
	for _, quota := range []int{1, 2, 3, 4, 6, 9, 14, 20, 40, 80, 160, 256} {
		for slots := 1; slots <= 8; slots++ {
			for seed := range 3 {
				r, x := rigged(t, quota, slots), random(1000*quota+10*slots+seed)
				for at := range 600 {
					r.step(&x)
					if at%8 == 0 {
						r.same()
						r.holds()
					}
				}
				r.same()
			}
		}
	}
}

func TestShortRows(t *testing.T) { // P18.2 to P18.7: all rows of four of these steps, behind two forks
	steps := []func(r *rig){
		func(r *rig) { r.fork(1, 5) },
		func(r *rig) { r.fork(2, 4) },
		func(r *rig) { r.spawn(3, 1, 6) },
		func(r *rig) { r.exit(2, 7) },
		func(r *rig) { r.exit(3, 8) },
		func(r *rig) { r.wait(1) },
		func(r *rig) { r.wait(2) },
		func(r *rig) { r.kill(1, 2, 9) },
		func(r *rig) { r.kill(1, 4, 9) },
		func(r *rig) { r.store(2, 5, 20) },
		func(r *rig) { r.turn() },
	}
	many := len(steps)
	for i := range many * many * many * many {
		r := rigged(t, 24, 4)
		r.grow(1, 0, 1, true)
		r.store(1, 5, 1)
		r.fork(1, 14)
		r.fork(2, 6)
		for pid := 1; pid <= 3; pid++ {
			r.put(pid, 0, 90)
			r.put(pid, 2, api.Word(90+pid))
		}
		for ; i > 0; i /= many {
			steps[i%many](r)
		}
		r.same()
		r.holds()
	}
}

func TestItIsFixed(t *testing.T) { // the same calls have the same answers, down to the memory's words
	for seed := range 5 {
		a, b := rigged(t, 40, 6), rigged(t, 40, 6)
		x, y := random(seed), random(seed)
		for range 500 {
			a.step(&x)
			b.step(&y)
		}
		for f := range a.m.Frames() {
			l, _ := a.m.Page(f)
			k, _ := b.m.Page(f)
			if !slices.Equal(l, k) || a.p.Refs(f) != b.p.Refs(f) {
				t.Fatalf("the frame %d: %v %d, %v %d", f, l, a.p.Refs(f), k, b.p.Refs(f))
			}
		}
	}
}

// all asks everything, whatever is answered: it has only to end.
func all(s *proc.Procs, x *random) {
	pid, other := 1+x.below(5), 1+x.below(5)
	switch x.below(12) {
	case 0, 1:
		s.Fork(pid, 1+x.below(9))
	case 2:
		s.Spawn(pid, 1+x.below(9), 7)
	case 3:
		s.Exit(pid, 7)
	case 4, 5:
		s.Wait(pid)
	case 6:
		s.Kill(pid, other, 7)
	case 7:
		s.Put(pid, x.below(8), 7)
	case 8:
		s.Turn()
	case 9:
		s.Spaces().Grow(pid, api.Area{From: x.below(40), Many: 1 + x.below(3), Write: true})
	default:
		s.Spaces().Store(pid, api.Word(32*x.below(40)), 7)
	}
	for pid := range 7 {
		s.Regs(pid)
		s.Left(pid)
	}
	s.Running()
	s.All()
	s.Row()
}

func TestOthersInTheWay(t *testing.T) { // nothing panics, whatever others do with the memory, the frames, the spaces
	x := random(5)
	for range 60 {
		m, p := over(t, 60, api.Range{From: 0, Many: 4}, api.Range{From: 4, Many: 40})
		s, err := proc.New(m, p, 1, api.Range{From: 50, Many: 2}, conf(40, 5))
		if err != api.OK {
			t.Fatalf("New: %d", err)
		}
		for range 300 {
			all(s, &x)
			switch x.below(8) {
			case 0:
				m.Write(x.below(60), x.below(32), pick(&x, words))
			case 1:
				p.Alloc(1)
			case 2:
				p.Free(4 + x.below(40))
			case 3:
				s.Spaces().Close(1 + x.below(5))
			case 4:
				s.Spaces().Open(1 + x.below(5))
			case 5:
				s.Spaces().Fork(1+x.below(5), 1+x.below(5))
			}
		}
	}
	// A pool over another memory, traps among the partition's own frames, a memory that is there no more.
	for range 30 {
		_, p := over(t, 60, api.Range{From: 0, Many: 60})
		m, _ := mem.New(1 + x.below(60))
		s, _ := proc.New(m, p, 0, api.Range{From: 0, Many: 1 + x.below(2)}, conf(30, 3))
		for range 200 {
			all(s, &x)
		}
		*m = mem.Mem{}
		for range 50 {
			all(s, &x)
		}
	}
}

func TestExamples(t *testing.T) {
	m, _ := mem.New(21)
	p, _ := palloc.New(m, []api.Range{{From: 0, Many: 20}})
	s, err := proc.New(m, p, 0, api.Range{From: 20, Many: 1}, conf(20, 3))
	if err != api.OK {
		t.Fatalf("New: %d", err)
	}
	row := func(want ...int) {
		t.Helper()
		if l := s.Row(); !slices.Equal(l, want) {
			t.Errorf("Row: %v, want %v", l, want)
		}
	}
	if n, err := s.Fork(1, 6); n != 2 || err != api.OK {
		t.Errorf("Fork(1, 6): %d %d", n, err)
	}
	if l, err := s.Regs(2); l != [8]api.Word{} || err != api.OK {
		t.Errorf("Regs(2): %v %d", l, err)
	}
	row(1, 2)
	if n := s.Left(1); n != 13 {
		t.Errorf("Left(1): %d", n)
	}
	if n, err := s.Fork(1, 14); n != 0 || err != api.ErrFull {
		t.Errorf("Fork(1, 14): %d %d", n, err)
	}
	if err := s.Wait(1); err != api.OK {
		t.Errorf("Wait(1): %d", err)
	}
	row(2)
	if err := s.Exit(2, 7); err != api.OK {
		t.Errorf("Exit(2, 7): %d", err)
	}
	row(1)
	if l, err := s.Regs(1); l != [8]api.Word{0, 2, 7} || err != api.OK {
		t.Errorf("Regs(1): %v %d", l, err)
	}
	if n := s.Left(1); n != 19 {
		t.Errorf("Left(1): %d", n)
	}
	if err := s.Exit(1, 0); err != api.ErrPerm {
		t.Errorf("Exit(1, 0): %d", err)
	}
}
