package slots_test

import (
	"math"
	"slices"
	"testing"

	"priory/api"
	"priory/slots"
)

// off are numbers that no process has, whatever the table.
var off = []int{math.MinInt, math.MinInt + 1, math.MinInt + 2, -1 << 32, -1<<32 + 1, -1 << 31, -256, -255, -254, -9, -8, -7, -2, -1, 0, 9, 10, 15, 16, 17, 18, 63, 64, 65, 255, 256, 257, 258, 1 << 16, 1<<16 + 1, math.MaxInt32, 1 << 32, 1<<32 + 1, 1<<32 + 2, math.MaxInt - 7, math.MaxInt}

// codes are what processes tell at their ends.
var codes = []api.Word{0, 1, 2, 7, 255, 256, 1 << 16, 1<<31 - 1, 1 << 31, math.MaxUint32}

// random is a row of numbers that is always the same.
type random uint32

// below tells the next number, which is below n.
func (r *random) below(n int) int {
	*r = *r*1664525 + 1013904223
	return int(*r>>8) % n
}

// model is a table as the document tells it: so many slots, and at each number its process, of the Pid 0 if it is not there.
type model struct {
	slots int
	at    [9]api.Proc
}

// begins is the model of a new table.
func begins(slots int) model {
	m := model{slots: slots}
	m.at[1] = api.Proc{Pid: 1, State: 1}
	return m
}

// has: is the process there?
func (m *model) has(pid int) bool {
	return pid >= 1 && pid <= 8 && m.at[pid].Pid != 0
}

// children tells a process's children, by rising numbers; such as are zombies only, if asked for.
func (m *model) children(pid int, zombies bool) []int {
	var l []int
	for _, p := range m.at {
		if p.Pid != 0 && p.Parent == pid && (p.State == 3 || !zombies) {
			l = append(l, p.Pid)
		}
	}
	return l
}

// add: P13.2.
func (m *model) add(parent int) (int, api.Errno) {
	if !m.has(parent) {
		return 0, api.ErrNone
	}
	if m.at[parent].State == 3 {
		return 0, api.ErrState
	}
	for pid := 1; pid <= m.slots; pid++ {
		if m.at[pid].Pid == 0 {
			m.at[pid] = api.Proc{Pid: pid, Parent: parent, State: 1}
			return pid, api.OK
		}
	}
	return 0, api.ErrFull
}

// serve lets one who waits learn what it may.
func (m *model) serve(pid int) []api.Reaped {
	l := m.children(pid, true)
	if m.at[pid].State != 2 || len(l) == 0 {
		return nil
	}
	learned := []api.Reaped{{Pid: pid, Child: l[0], Code: m.at[l[0]].Code}}
	m.at[l[0]] = api.Proc{}
	m.at[pid].State = 1
	return learned
}

// exit: P13.3.
func (m *model) exit(pid int, code api.Word) ([]api.Reaped, api.Errno) {
	if !m.has(pid) {
		return nil, api.ErrNone
	}
	if pid == 1 {
		return nil, api.ErrPerm
	}
	if m.at[pid].State == 3 {
		return nil, api.ErrState
	}
	m.at[pid].State, m.at[pid].Code = 3, code
	for _, child := range m.children(pid, false) {
		m.at[child].Parent = 1
	}
	var learned []api.Reaped
	for waits := 1; waits <= 8; waits++ {
		learned = append(learned, m.serve(waits)...)
	}
	return learned, api.OK
}

// wait: P13.4.
func (m *model) wait(pid int) ([]api.Reaped, api.Errno) {
	if !m.has(pid) || len(m.children(pid, false)) == 0 {
		return nil, api.ErrNone
	}
	if m.at[pid].State != 1 {
		return nil, api.ErrState
	}
	m.at[pid].State = 2
	return m.serve(pid), api.OK
}

// all tells the processes that are there.
func (m *model) all() []api.Proc {
	return slices.DeleteFunc(slices.Clone(m.at[:]), func(p api.Proc) bool { return p.Pid == 0 })
}

// fresh is a new table.
func fresh(t *testing.T, many int) *slots.Table {
	t.Helper()
	table, err := slots.New(many)
	if table == nil || err != api.OK {
		t.Fatalf("New(%d): %v %d", many, table, err)
	}
	return table
}

// same holds a table against the processes that it should have.
func same(t *testing.T, table *slots.Table, want ...api.Proc) {
	t.Helper()
	if got := table.All(); !slices.Equal(got, want) {
		t.Fatalf("All: %v, want %v", got, want)
	}
	for pid := 0; pid <= 9; pid++ {
		i := slices.IndexFunc(want, func(p api.Proc) bool { return p.Pid == pid })
		p := api.Proc{}
		if i >= 0 {
			p = want[i]
		}
		if got, ok := table.Get(pid); got != p || ok != (i >= 0) {
			t.Fatalf("Get(%d): %v %t, want %v", pid, got, ok, p)
		}
	}
}

// adds asks for what Add answers.
func adds(t *testing.T, table *slots.Table, parent, want int, e api.Errno) {
	t.Helper()
	if pid, err := table.Add(parent); pid != want || err != e {
		t.Fatalf("Add(%d): %d %d, want %d %d", parent, pid, err, want, e)
	}
}

// exits asks for what Exit answers.
func exits(t *testing.T, table *slots.Table, pid int, code api.Word, e api.Errno, want ...api.Reaped) {
	t.Helper()
	if l, err := table.Exit(pid, code); !slices.Equal(l, want) || err != e {
		t.Fatalf("Exit(%d, %d): %v %d, want %v %d", pid, code, l, err, want, e)
	}
}

// waits asks for what Wait answers.
func waits(t *testing.T, table *slots.Table, pid int, e api.Errno, want ...api.Reaped) {
	t.Helper()
	if l, err := table.Wait(pid); !slices.Equal(l, want) || err != e {
		t.Fatalf("Wait(%d): %v %d, want %v %d", pid, l, err, want, e)
	}
}

// family is a table of so many slots with a process more for each parent.
func family(t *testing.T, many int, parents ...int) *slots.Table {
	t.Helper()
	table := fresh(t, many)
	for i, parent := range parents {
		adds(t, table, parent, i+2, api.OK)
	}
	return table
}

func TestNew(t *testing.T) { // P13.1
	for many := 1; many <= 8; many++ {
		table := fresh(t, many)
		same(t, table, api.Proc{Pid: 1, State: api.Ready})
		waits(t, table, 1, api.ErrNone)
		exits(t, table, 1, 5, api.ErrPerm)
		same(t, table, api.Proc{Pid: 1, State: api.Ready})
	}
}

func TestNewOfNoSlots(t *testing.T) { // P13.1
	for _, many := range off {
		if table, err := slots.New(many); table != nil || err != api.ErrArg {
			t.Errorf("New(%d): %v %d", many, table, err)
		}
	}
}

func TestGet(t *testing.T) { // P13.1
	table := family(t, 4, 1, 2)
	waits(t, table, 1, api.OK)
	exits(t, table, 3, 9, api.OK)
	want := []api.Proc{{}, {Pid: 1, State: 2}, {Pid: 2, Parent: 1, State: 1}, {Pid: 3, Parent: 2, State: 3, Code: 9}, {}}
	for pid, p := range want {
		for range 2 {
			if got, ok := table.Get(pid); got != p || ok != (p.Pid != 0) {
				t.Errorf("Get(%d): %v %t, want %v", pid, got, ok, p)
			}
		}
	}
	for _, pid := range off {
		if got, ok := table.Get(pid); got != (api.Proc{}) || ok {
			t.Errorf("Get(%d): %v %t", pid, got, ok)
		}
	}
}

func TestAllByRisingNumbers(t *testing.T) { // P13.1
	table := family(t, 8, 1, 1, 1, 1, 1, 1, 1)
	for range 100 {
		for i, p := range table.All() {
			if p.Pid != i+1 {
				t.Fatalf("All: %d stands at %d", p.Pid, i)
			}
		}
	}
	exits(t, table, 5, 1, api.OK)
	exits(t, table, 3, 2, api.OK)
	waits(t, table, 1, api.OK, api.Reaped{Pid: 1, Child: 3, Code: 2})
	waits(t, table, 1, api.OK, api.Reaped{Pid: 1, Child: 5, Code: 1})
	adds(t, table, 8, 3, api.OK)
	same(t, table, api.Proc{Pid: 1, State: 1}, api.Proc{Pid: 2, Parent: 1, State: 1}, api.Proc{Pid: 3, Parent: 8, State: 1},
		api.Proc{Pid: 4, Parent: 1, State: 1}, api.Proc{Pid: 6, Parent: 1, State: 1}, api.Proc{Pid: 7, Parent: 1, State: 1}, api.Proc{Pid: 8, Parent: 1, State: 1})
}

func TestAdd(t *testing.T) { // P13.2
	for many := 1; many <= 8; many++ {
		chain, star := fresh(t, many), fresh(t, many)
		for pid := 2; pid <= many; pid++ {
			adds(t, chain, pid, 0, api.ErrNone)
			adds(t, chain, pid-1, pid, api.OK)
			adds(t, star, 1, pid, api.OK)
		}
		for pid := 1; pid <= many; pid++ {
			adds(t, chain, pid, 0, api.ErrFull)
			adds(t, star, pid, 0, api.ErrFull)
			parent := min(pid-1, 1)
			if p, _ := chain.Get(pid); p != (api.Proc{Pid: pid, Parent: pid - 1, State: api.Ready}) {
				t.Errorf("%d of a chain of %d: %v", pid, many, p)
			}
			if p, _ := star.Get(pid); p != (api.Proc{Pid: pid, Parent: parent, State: api.Ready}) {
				t.Errorf("%d of a star of %d: %v", pid, many, p)
			}
		}
		for _, parent := range append(off, many+1) {
			adds(t, chain, parent, 0, api.ErrNone)
		}
	}
}

func TestAddOfWhoWaits(t *testing.T) { // P13.2
	table := family(t, 4, 1, 2)
	waits(t, table, 1, api.OK)
	waits(t, table, 2, api.OK)
	adds(t, table, 2, 4, api.OK)
	adds(t, table, 1, 0, api.ErrFull)
	same(t, table, api.Proc{Pid: 1, State: 2}, api.Proc{Pid: 2, Parent: 1, State: 2}, api.Proc{Pid: 3, Parent: 2, State: 1}, api.Proc{Pid: 4, Parent: 2, State: 1})
	exits(t, table, 4, 6, api.OK, api.Reaped{Pid: 2, Child: 4, Code: 6})
}

func TestAddOfAZombie(t *testing.T) { // P13.2
	for many := 3; many <= 4; many++ {
		// Whether a slot is free or not: that it is a zombie is told first.
		table := family(t, many, 1, 2)
		exits(t, table, 2, 0, api.OK)
		want := table.All()
		adds(t, table, 2, 0, api.ErrState)
		same(t, table, want...)
	}
}

func TestLeastFreeNumber(t *testing.T) { // P13.2
	for pid := 2; pid <= 8; pid++ {
		for other := 2; other <= 8; other++ {
			if other == pid {
				continue
			}
			table := family(t, 8, 1, 1, 1, 1, 1, 1, 1)
			exits(t, table, pid, 3, api.OK)
			exits(t, table, other, 3, api.OK)
			// A zombie has its slot still.
			adds(t, table, 1, 0, api.ErrFull)
			for _, ends := range []int{min(pid, other), max(pid, other)} {
				waits(t, table, 1, api.OK, api.Reaped{Pid: 1, Child: ends, Code: 3})
				if _, ok := table.Get(ends); ok {
					t.Fatalf("%d was learned of, and is there", ends)
				}
				adds(t, table, ends, 0, api.ErrNone)
			}
			adds(t, table, 1, min(pid, other), api.OK)
			adds(t, table, min(pid, other), max(pid, other), api.OK)
			if p, _ := table.Get(max(pid, other)); p != (api.Proc{Pid: max(pid, other), Parent: min(pid, other), State: api.Ready}) {
				t.Fatalf("%d that came again: %v", max(pid, other), p)
			}
			adds(t, table, 1, 0, api.ErrFull)
		}
	}
}

func TestExit(t *testing.T) { // P13.3
	for _, code := range codes {
		table := family(t, 3, 1, 1)
		exits(t, table, 3, code, api.OK)
		want := []api.Proc{{Pid: 1, State: 1}, {Pid: 2, Parent: 1, State: 1}, {Pid: 3, Parent: 1, State: 3, Code: code}}
		same(t, table, want...)
		for _, again := range codes {
			exits(t, table, 3, again, api.ErrState)
			exits(t, table, 1, again, api.ErrPerm)
			for _, pid := range append(off, 4, 8) {
				exits(t, table, pid, again, api.ErrNone)
			}
		}
		same(t, table, want...)
	}
}

func TestExitOfTheFirstOne(t *testing.T) { // P13.3
	table := family(t, 2, 1)
	waits(t, table, 1, api.OK)
	exits(t, table, 1, 0, api.ErrPerm)
	same(t, table, api.Proc{Pid: 1, State: 2}, api.Proc{Pid: 2, Parent: 1, State: 1})
	exits(t, table, 2, 0, api.OK, api.Reaped{Pid: 1, Child: 2})
	exits(t, table, 1, 0, api.ErrPerm)
	same(t, table, api.Proc{Pid: 1, State: 1})
}

func TestExitOfWhoWaits(t *testing.T) { // P13.3
	table := family(t, 3, 1, 2)
	waits(t, table, 2, api.OK)
	exits(t, table, 2, 4, api.OK)
	same(t, table, api.Proc{Pid: 1, State: 1}, api.Proc{Pid: 2, Parent: 1, State: 3, Code: 4}, api.Proc{Pid: 3, Parent: 1, State: 1})
	// It waits no more: what was its child is learned of by 1.
	exits(t, table, 3, 5, api.OK)
	waits(t, table, 1, api.OK, api.Reaped{Pid: 1, Child: 2, Code: 4})
	waits(t, table, 1, api.OK, api.Reaped{Pid: 1, Child: 3, Code: 5})
	waits(t, table, 1, api.ErrNone)
}

func TestChildrenOfWhoEnds(t *testing.T) { // P13.3
	// 4 has the children 5, which is ready, 6, which waits, and 7, a zombie; 8 is a child of 6.
	table := family(t, 8, 1, 2, 3, 4, 4, 4, 6)
	waits(t, table, 6, api.OK)
	exits(t, table, 7, 70, api.OK)
	exits(t, table, 4, 40, api.OK)
	// They are 1's, not those of 4's own Parent, and are else what they were.
	same(t, table, api.Proc{Pid: 1, State: 1}, api.Proc{Pid: 2, Parent: 1, State: 1}, api.Proc{Pid: 3, Parent: 2, State: 1},
		api.Proc{Pid: 4, Parent: 3, State: 3, Code: 40}, api.Proc{Pid: 5, Parent: 1, State: 1}, api.Proc{Pid: 6, Parent: 1, State: 2},
		api.Proc{Pid: 7, Parent: 1, State: 3, Code: 70}, api.Proc{Pid: 8, Parent: 6, State: 1})
	waits(t, table, 4, api.ErrNone)
	waits(t, table, 3, api.OK, api.Reaped{Pid: 3, Child: 4, Code: 40})
	waits(t, table, 1, api.OK, api.Reaped{Pid: 1, Child: 7, Code: 70})
	waits(t, table, 3, api.ErrNone)
	exits(t, table, 8, 80, api.OK, api.Reaped{Pid: 6, Child: 8, Code: 80})
}

func TestServed(t *testing.T) { // P13.3
	// 1 waits, and 2 for 3, which has the zombie 4: behind the end of 3, both learn something, 1 first.
	table := family(t, 8, 1, 2, 3)
	waits(t, table, 1, api.OK)
	exits(t, table, 4, 44, api.OK)
	waits(t, table, 2, api.OK)
	exits(t, table, 3, 33, api.OK, api.Reaped{Pid: 1, Child: 4, Code: 44}, api.Reaped{Pid: 2, Child: 3, Code: 33})
	same(t, table, api.Proc{Pid: 1, State: 1}, api.Proc{Pid: 2, Parent: 1, State: 1})
}

func TestServedByItsParentAlone(t *testing.T) { // P13.3
	// All of 1, 2 and 3 wait, each for a child; who is no Parent of who ends waits on.
	table := family(t, 8, 1, 1, 2, 3)
	for pid := 1; pid <= 3; pid++ {
		waits(t, table, pid, api.OK)
	}
	exits(t, table, 5, 9, api.OK, api.Reaped{Pid: 3, Child: 5, Code: 9})
	same(t, table, api.Proc{Pid: 1, State: 2}, api.Proc{Pid: 2, Parent: 1, State: 2}, api.Proc{Pid: 3, Parent: 1, State: 1}, api.Proc{Pid: 4, Parent: 2, State: 1})
	exits(t, table, 4, 8, api.OK, api.Reaped{Pid: 2, Child: 4, Code: 8})
	exits(t, table, 2, 7, api.OK, api.Reaped{Pid: 1, Child: 2, Code: 7})
	exits(t, table, 3, 6, api.OK)
	same(t, table, api.Proc{Pid: 1, State: 1}, api.Proc{Pid: 3, Parent: 1, State: 3, Code: 6})
}

func TestLeastIsLearnedOf(t *testing.T) { // P13.3, P13.4
	// 3 has the zombie 2, a lesser number than its own, and 4, a greater one: 1, which waits for 3, learns of 2, 3, 4.
	table := family(t, 8, 1, 1, 3)
	exits(t, table, 2, 0, api.OK)
	waits(t, table, 1, api.OK, api.Reaped{Pid: 1, Child: 2})
	adds(t, table, 3, 2, api.OK)
	exits(t, table, 4, 14, api.OK)
	exits(t, table, 2, 12, api.OK)
	waits(t, table, 1, api.OK)
	exits(t, table, 3, 13, api.OK, api.Reaped{Pid: 1, Child: 2, Code: 12})
	same(t, table, api.Proc{Pid: 1, State: 1}, api.Proc{Pid: 3, Parent: 1, State: 3, Code: 13}, api.Proc{Pid: 4, Parent: 1, State: 3, Code: 14})
	waits(t, table, 1, api.OK, api.Reaped{Pid: 1, Child: 3, Code: 13})
	waits(t, table, 1, api.OK, api.Reaped{Pid: 1, Child: 4, Code: 14})
	waits(t, table, 1, api.ErrNone)
}

func TestWait(t *testing.T) { // P13.4
	for child := 2; child <= 8; child++ {
		for _, code := range codes {
			table := family(t, 8, 1, 1, 1, 1, 1, 1, 1)
			waits(t, table, 1, api.OK)
			waits(t, table, 1, api.ErrState)
			if p, _ := table.Get(1); p != (api.Proc{Pid: 1, State: api.Waiting}) {
				t.Fatalf("who waits: %v", p)
			}
			exits(t, table, child, code, api.OK, api.Reaped{Pid: 1, Child: child, Code: code})
			if p, _ := table.Get(1); p != (api.Proc{Pid: 1, State: api.Ready}) {
				t.Fatalf("who learned something: %v", p)
			}
			if _, ok := table.Get(child); ok || len(table.All()) != 7 {
				t.Fatalf("who was learned of: %v", table.All())
			}
		}
	}
}

func TestWaitForWhoEnded(t *testing.T) { // P13.4
	for _, code := range codes {
		table := family(t, 3, 1, 2)
		exits(t, table, 3, code, api.OK)
		waits(t, table, 2, api.OK, api.Reaped{Pid: 2, Child: 3, Code: code})
		same(t, table, api.Proc{Pid: 1, State: 1}, api.Proc{Pid: 2, Parent: 1, State: 1})
		waits(t, table, 2, api.ErrNone)
	}
}

func TestWaitOfNobody(t *testing.T) { // P13.4
	table := family(t, 8, 1, 2, 1)
	exits(t, table, 4, 0, api.OK)
	waits(t, table, 2, api.OK)
	want := table.All()
	// 2 waits; 3 has no child; nor has 4, a zombie.
	waits(t, table, 2, api.ErrState)
	waits(t, table, 3, api.ErrNone)
	waits(t, table, 4, api.ErrNone)
	for _, pid := range append(off, 5, 8) {
		waits(t, table, pid, api.ErrNone)
	}
	same(t, table, want...)
}

func TestAnswersAreNewMemory(t *testing.T) { // P13.1, P13.3, P13.4
	table := family(t, 3, 1, 2)
	all, other := table.All(), table.All()
	want := slices.Clone(all)
	for i := range all {
		all[i] = api.Proc{Pid: 8, Parent: 8, State: 8, Code: 8}
	}
	_ = append(all[:0], api.Proc{Pid: 9})
	same(t, table, want...)
	waits(t, table, 2, api.OK)
	l, _ := table.Exit(3, 5)
	if !slices.Equal(other, want) {
		t.Fatalf("an answer of before: %v", other)
	}
	adds(t, table, 2, 3, api.OK)
	exits(t, table, 3, 6, api.OK)
	waits(t, table, 2, api.OK, api.Reaped{Pid: 2, Child: 3, Code: 6})
	if len(l) != 1 || l[0] != (api.Reaped{Pid: 2, Child: 3, Code: 5}) {
		t.Fatalf("what was learned before: %v", l)
	}
	l[0] = api.Reaped{}
	same(t, table, want[:2]...)
}

func TestOfNoTable(t *testing.T) { // P13.1, P13.2, P13.3, P13.4
	for name, table := range map[string]*slots.Table{"nil": nil, "zero": {}} {
		for _, pid := range append([]int{1, 2, 8}, off...) {
			adds(t, table, pid, 0, api.ErrNil)
			exits(t, table, pid, 3, api.ErrNil)
			waits(t, table, pid, api.ErrNil)
			if p, ok := table.Get(pid); p != (api.Proc{}) || ok {
				t.Fatalf("Get(%d) of a %s table: %v %t", pid, name, p, ok)
			}
			if l := table.All(); len(l) != 0 {
				t.Fatalf("All of a %s table: %v", name, l)
			}
		}
	}
}

func TestTwoTables(t *testing.T) { // P13.2, P13.3, P13.4
	r := random(7)
	table, m := [2]*slots.Table{fresh(t, 8), fresh(t, 3)}, [2]model{begins(8), begins(3)}
	for range 5000 {
		i := r.below(2)
		do(t, table[i], &m[i], step{r.below(3), r.below(10), api.Word(r.below(1000))})
		same(t, table[0], m[0].all()...)
		same(t, table[1], m[1].all()...)
	}
}

// step is one call: Add, Exit or Wait, of a process, with a code.
type step struct {
	what, pid int
	code      api.Word
}

// do does a step on a table and on its model, and holds what they answer against each other.
func do(t *testing.T, table *slots.Table, m *model, s step) {
	t.Helper()
	switch s.what {
	case 0:
		pid, e := m.add(s.pid)
		adds(t, table, s.pid, pid, e)
	case 1:
		l, e := m.exit(s.pid, s.code)
		exits(t, table, s.pid, s.code, e, l...)
	case 2:
		l, e := m.wait(s.pid)
		waits(t, table, s.pid, e, l...)
	}
}

func TestRowsOfSteps(t *testing.T) { // P13.1, P13.2, P13.3, P13.4
	for seed := range 400 {
		r := random(seed)
		many := seed%8 + 1
		table, m := fresh(t, many), begins(many)
		for range 300 {
			do(t, table, &m, step{[]int{0, 0, 1, 2}[r.below(4)], r.below(many + 2), api.Word(r.below(math.MaxInt32))})
			same(t, table, m.all()...)
		}
	}
}

// paths tells, for each state of a table of so many slots that the model says there is, a row of steps to it. All calls are held against the model in each of them.
func paths(t *testing.T, many int) [][]step {
	t.Helper()
	all := [][]step{nil}
	seen := map[model]int{begins(many): 0}
	for from := 0; from < len(all); from++ {
		for _, s := range steps(many) {
			table, m := at(t, many, all[from])
			do(t, table, &m, s)
			same(t, table, m.all()...)
			if _, ok := seen[m]; !ok {
				seen[m] = len(all)
				all = append(all, append(slices.Clone(all[from]), s))
			}
		}
	}
	return all
}

// steps are all the calls of the processes that a table of so many slots may have, and of a number at each end that it may not. Whoever ends tells ten times its number.
func steps(many int) []step {
	var l []step
	for pid := 0; pid <= many+1; pid++ {
		l = append(l, step{0, pid, 0}, step{1, pid, api.Word(10 * pid)}, step{2, pid, 0})
	}
	return l
}

// at is a table behind some steps, and its model.
func at(t *testing.T, many int, row []step) (*slots.Table, model) {
	t.Helper()
	table, m := fresh(t, many), begins(many)
	for _, s := range row {
		do(t, table, &m, s)
	}
	return table, m
}

func TestAllStates(t *testing.T) { // P13.1, P13.2, P13.3, P13.4, P13.5
	// So many states P13.5 allows, counted without any steps (of two slots: 1 alone, with 2, waiting for 2, with 2 a zombie): each of them there is, and no other.
	for i, states := range []int{1, 4, 24, 226, 3120} {
		all := paths(t, i+1)
		if len(all) != states {
			t.Errorf("states of %d slots: %d, want %d", i+1, len(all), states)
		}
		for _, row := range all {
			table, _ := at(t, i+1, row)
			holds(t, table.All())
		}
	}
}

// holds asks for what P13.5 says of the processes that are there.
func holds(t *testing.T, all []api.Proc) {
	t.Helper()
	at := map[int]api.Proc{}
	for _, p := range all {
		at[p.Pid] = p
	}
	for _, p := range all {
		if p.State == api.Waiting {
			children := slices.DeleteFunc(slices.Clone(all), func(c api.Proc) bool { return c.Parent != p.Pid })
			if len(children) == 0 || slices.ContainsFunc(children, func(c api.Proc) bool { return c.State == api.Zombie }) {
				t.Fatalf("%d waits in %v", p.Pid, all)
			}
		}
		if p.State != api.Zombie && p.Code != 0 {
			t.Fatalf("%d has a code in %v", p.Pid, all)
		}
		on := p
		for range all {
			if on.Pid != 1 {
				on = at[on.Parent]
				if on.Pid == 0 || on.State == api.Zombie {
					t.Fatalf("%d has a parent that is not there in %v", p.Pid, all)
				}
			}
		}
		if on.Pid != 1 || on.Parent != 0 {
			t.Fatalf("%d does not lead to 1 in %v", p.Pid, all)
		}
	}
}

func TestWhatFollows(t *testing.T) { // P13.5
	for seed := range 400 {
		r := random(seed)
		many := seed%8 + 1
		table := fresh(t, many)
		ended, learned := map[api.Word]int{}, map[api.Word]bool{}
		for i := range 300 {
			pid, before := r.below(many+1), table.All()
			var l []api.Reaped
			switch r.below(4) {
			case 0, 1:
				table.Add(pid)
			case 2:
				// No two tell the same, so that a code says whose end it is.
				var err api.Errno
				if l, err = table.Exit(pid, api.Word(i+1)); err == api.OK {
					ended[api.Word(i+1)] = pid
				}
			case 3:
				l, _ = table.Wait(pid)
			}
			for _, got := range l {
				if ended[got.Code] != got.Child || learned[got.Code] {
					t.Fatalf("%v was learned in %v", got, before)
				}
				learned[got.Code] = true
			}
			holds(t, table.All())
		}
		// Who ended and was not learned of is there.
		there := map[api.Word]bool{}
		for _, p := range table.All() {
			there[p.Code] = p.State == api.Zombie
		}
		for code, pid := range ended {
			if there[code] == learned[code] {
				t.Fatalf("the end of %d, which told %d, is lost, or there still", pid, code)
			}
		}
	}
}

func TestChapter(t *testing.T) { // P13.1, P13.2, P13.3, P13.4
	table := fresh(t, 3)
	adds(t, table, 1, 2, api.OK)
	adds(t, table, 2, 3, api.OK)
	adds(t, table, 1, 0, api.ErrFull)
	waits(t, table, 1, api.OK)
	exits(t, table, 2, 7, api.OK, api.Reaped{Pid: 1, Child: 2, Code: 7})
	same(t, table, api.Proc{Pid: 1, State: 1}, api.Proc{Pid: 3, Parent: 1, State: 1})
	exits(t, table, 3, 1, api.OK)
	waits(t, table, 1, api.OK, api.Reaped{Pid: 1, Child: 3, Code: 1})
	waits(t, table, 1, api.ErrNone)
}
