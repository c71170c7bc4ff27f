package budget_test

import (
	"math"
	"slices"
	"testing"

	"priory/api"
	"priory/budget"
)

// offIds are numbers that are no container's Id.
var offIds = []int{math.MinInt, math.MinInt + 1, -1 << 32, -1<<32 + 1, -1 << 31, -65536, -8, -2, -1, 0, 9, 10, 16, 257, 1 << 16, math.MaxInt32, 1 << 32, 1<<32 + 1, math.MaxInt - 7, math.MaxInt}

// offNumbers are numbers that are no quota, and are neither charged nor refunded.
var offNumbers = []int{math.MinInt, math.MinInt + 1, -1 << 32, -1<<32 + 1, -1 << 31, -65537, -65536, -2, -1, 65537, 65538, 1 << 17, math.MaxInt32, 1 << 32, 1<<32 + 1, math.MaxInt - 65536, math.MaxInt - 1, math.MaxInt}

// edges are numbers that may be quotas, at the ends and about the powers of 2.
var edges = []int{0, 1, 2, 3, 7, 8, 9, 255, 256, 257, 1024, 32767, 32768, 65534, 65535, 65536}

// random is a row of numbers that is always the same.
type random uint32

// below tells the next number, which is below n.
func (r *random) below(n int) int {
	*r = *r*1664525 + 1013904223
	return int(*r>>8) % n
}

// one of the model's containers. What is left is kept, and handed from one to another: the program reckons it.
type one struct {
	there                 bool
	up, quota, used, left int
}

// model is a budget as the document tells it, by Ids.
type model [9]one

// newModel is the model of a new budget.
func newModel(quota int) *model {
	return &model{1: {there: true, quota: quota, left: quota}}
}

// isId tells whether there may be such a container.
func isId(id int) bool { return id >= 1 && id <= 8 }

// isNumber tells whether it may be a quota.
func isNumber(n int) bool { return n >= 0 && n <= 65536 }

// open is Open.
func (m *model) open(id, up, quota int) api.Errno {
	switch {
	case !isId(id) || !isId(up) || !isNumber(quota):
		return api.ErrArg
	case !m[up].there:
		return api.ErrNone
	case m[id].there:
		return api.ErrThere
	case m[up].left < quota:
		return api.ErrFull
	}
	m[up].left -= quota
	m[id] = one{there: true, up: up, quota: quota, left: quota}
	return api.OK
}

// close is Close.
func (m *model) close(id int) api.Errno {
	switch {
	case !isId(id):
		return api.ErrArg
	case !m[id].there:
		return api.ErrNone
	case id == 1 || m[id].used > 0:
		return api.ErrState
	}
	up := m[id].up
	m[up].left += m[id].left
	m[id] = one{}
	for i := range m {
		if m[i].there && m[i].up == id {
			m[i].up = up
		}
	}
	return api.OK
}

// charge is Charge.
func (m *model) charge(id, n int) api.Errno {
	switch {
	case !isId(id) || !isNumber(n):
		return api.ErrArg
	case !m[id].there:
		return api.ErrNone
	case m[id].left < n:
		return api.ErrFull
	}
	m[id].used += n
	m[id].left -= n
	return api.OK
}

// refund is Refund.
func (m *model) refund(id, n int) api.Errno {
	switch {
	case !isId(id) || !isNumber(n):
		return api.ErrArg
	case !m[id].there:
		return api.ErrNone
	case m[id].used < n:
		return api.ErrState
	}
	m[id].used -= n
	m[id].left += n
	return api.OK
}

// all is All.
func (m *model) all() []api.Node {
	var l []api.Node
	for id, c := range m {
		if c.there {
			l = append(l, api.Node{Id: id, Up: c.up, Quota: c.quota, Used: c.used})
		}
	}
	return l
}

// pair is a budget and its model, to which the same is done.
type pair struct {
	t *testing.T
	b *budget.Budget
	m *model
}

// made is a budget that New answers, which must do so, and its model.
func made(t *testing.T, quota int) *pair {
	t.Helper()
	b, err := budget.New(quota)
	if b == nil || err != api.OK {
		t.Fatalf("New(%d): %v %d", quota, b, err)
	}
	p := &pair{t, b, newModel(quota)}
	p.same()
	return p
}

// same holds the budget against its model.
func (p *pair) same() {
	p.t.Helper()
	if got, want := p.b.All(), p.m.all(); !slices.Equal(got, want) {
		p.t.Fatalf("All: %v, want %v", got, want)
	}
	for id, c := range p.m {
		if got := p.b.Left(id); got != c.left {
			p.t.Fatalf("Left(%d): %d, want %d, of %v", id, got, c.left, p.m.all())
		}
	}
}

// told holds an answer against the model's, and the error that is wanted.
func (p *pair) told(what string, l []int, got, model, want api.Errno) {
	p.t.Helper()
	if got != want || model != want {
		p.t.Fatalf("%s%v: %d, want %d (model: %d), of %v", what, l, got, want, model, p.m.all())
	}
	p.same()
}

// open opens, which must answer e.
func (p *pair) open(id, up, quota int, e api.Errno) {
	p.t.Helper()
	p.told("Open", []int{id, up, quota}, p.b.Open(id, up, quota), p.m.open(id, up, quota), e)
}

// close closes, which must answer e.
func (p *pair) close(id int, e api.Errno) {
	p.t.Helper()
	p.told("Close", []int{id}, p.b.Close(id), p.m.close(id), e)
}

// charge charges, which must answer e.
func (p *pair) charge(id, n int, e api.Errno) {
	p.t.Helper()
	p.told("Charge", []int{id, n}, p.b.Charge(id, n), p.m.charge(id, n), e)
}

// refund refunds, which must answer e.
func (p *pair) refund(id, n int, e api.Errno) {
	p.t.Helper()
	p.told("Refund", []int{id, n}, p.b.Refund(id, n), p.m.refund(id, n), e)
}

// left asks what is left.
func (p *pair) left(id, want int) {
	p.t.Helper()
	if got := p.b.Left(id); got != want {
		p.t.Fatalf("Left(%d): %d, want %d", id, got, want)
	}
}

// all asks for all containers.
func (p *pair) all(want ...api.Node) {
	p.t.Helper()
	if got := p.b.All(); !slices.Equal(got, want) {
		p.t.Fatalf("All: %v, want %v", got, want)
	}
}

func TestNew(t *testing.T) { // P11.1
	for quota := range 65537 {
		p := made(t, quota)
		p.all(api.Node{Id: 1, Quota: quota})
		p.left(1, quota)
	}
}

func TestNewThatMayNotBe(t *testing.T) { // P11.1
	for _, quota := range offNumbers {
		if b, err := budget.New(quota); b != nil || err != api.ErrArg {
			t.Errorf("New(%d): %v %d, want ErrArg", quota, b, err)
		}
	}
}

func TestNoBudget(t *testing.T) { // P11.1, P11.2, P11.3, P11.4
	none, _ := budget.New(-1)
	ids := append([]int{1, 2, 3, 8}, offIds...)
	for _, b := range []*budget.Budget{nil, none, {}, new(budget.Budget)} {
		asked := func(what string, got api.Errno) {
			t.Helper()
			if got != api.ErrNil {
				t.Errorf("%s of no budget: %d, want ErrNil", what, got)
			}
		}
		// ErrNil goes ahead of ErrArg and of ErrNone, and nothing of this stays.
		for _, id := range ids {
			asked("Close", b.Close(id))
			for _, n := range append(slices.Clone(edges), offNumbers...) {
				asked("Charge", b.Charge(id, n))
				asked("Refund", b.Refund(id, n))
				asked("Open", b.Open(id, 1, n))
				asked("Open", b.Open(2, id, n))
			}
		}
		for _, id := range ids {
			if got := b.Left(id); got != 0 {
				t.Errorf("Left(%d) of no budget: %d, want 0", id, got)
			}
		}
		if l := b.All(); len(l) != 0 {
			t.Errorf("All of no budget: %v", l)
		}
	}
}

func TestOpen(t *testing.T) { // P11.1
	for _, quota := range edges {
		for _, of := range edges {
			p := made(t, quota)
			if of > quota {
				p.open(2, 1, of, api.ErrFull)
				p.left(1, quota)
				continue
			}
			p.open(2, 1, of, api.OK)
			p.left(1, quota-of)
			p.left(2, of)
			p.all(api.Node{Id: 1, Quota: quota}, api.Node{Id: 2, Up: 1, Quota: of})
		}
	}
	// Each Id is carved from each other one.
	for up := 1; up <= 8; up++ {
		for id := 2; id <= 8; id++ {
			p := made(t, 65536)
			if up != 1 {
				p.open(up, 1, 300, api.OK)
			}
			want := api.OK
			if id == up {
				want = api.ErrThere
			}
			p.open(id, up, 300, want)
		}
	}
}

func TestOpenOfWhatIsLeft(t *testing.T) { // P11.1
	// What is used, and what others have, is left to nobody.
	p := made(t, 20)
	p.charge(1, 3, api.OK)
	p.open(2, 1, 6, api.OK)
	p.open(3, 1, 4, api.OK)
	p.open(4, 1, 8, api.ErrFull)
	p.open(4, 1, 65536, api.ErrFull)
	p.charge(2, 2, api.OK)
	p.open(4, 2, 5, api.ErrFull)
	p.open(4, 2, 4, api.OK)
	p.open(5, 2, 1, api.ErrFull)
	p.open(5, 2, 0, api.OK) // nothing is left, and nothing is asked for
	p.open(6, 5, 1, api.ErrFull)
	p.open(6, 5, 0, api.OK)
	p.open(7, 1, 7, api.OK)
	p.left(1, 0)
	p.open(8, 1, 1, api.ErrFull)
	p.open(8, 1, 0, api.OK)
}

func TestOpenErrors(t *testing.T) { // P11.1
	p := made(t, 10)
	p.open(2, 1, 4, api.OK)
	// ErrArg goes ahead of all others: of up that is not there, of id that is, of too much.
	for _, off := range offIds {
		for _, id := range append([]int{1, 2, 3}, offIds...) {
			for _, quota := range []int{0, 1, 11, 65536, -1, 65537} {
				p.open(off, id, quota, api.ErrArg)
				p.open(id, off, quota, api.ErrArg)
			}
		}
	}
	for _, quota := range offNumbers {
		for _, id := range []int{1, 2, 3, 8} {
			for _, up := range []int{1, 2, 3, 8} {
				p.open(id, up, quota, api.ErrArg)
			}
		}
	}
	for _, quota := range []int{0, 1, 5, 6, 7, 11, 65536} {
		// ErrNone goes ahead of ErrThere and of ErrFull.
		for _, id := range []int{1, 2, 3, 4, 8} {
			for _, up := range []int{3, 4, 8} {
				p.open(id, up, quota, api.ErrNone)
			}
		}
		// ErrThere goes ahead of ErrFull.
		for _, id := range []int{1, 2} {
			p.open(id, 1, quota, api.ErrThere)
			p.open(id, 2, quota, api.ErrThere)
		}
	}
}

func TestAllEight(t *testing.T) { // P11.1, P11.4
	orders := [][]int{{2, 3, 4, 5, 6, 7, 8}, {8, 7, 6, 5, 4, 3, 2}, {5, 2, 8, 3, 7, 4, 6}}
	for _, l := range orders {
		row, star := made(t, 100), made(t, 100)
		up := 1
		for i, id := range l {
			row.open(id, up, 90-10*i, api.OK) // each is carved from the one ahead of it
			star.open(id, 1, 10+i, api.OK)
			up = id
		}
		for id := 1; id <= 8; id++ {
			for _, p := range []*pair{row, star} {
				p.open(id, 1, 0, api.ErrThere)
				p.open(id, id, 0, api.ErrThere)
			}
		}
	}
}

func TestClose(t *testing.T) { // P11.2
	p := made(t, 100)
	p.open(2, 1, 60, api.OK)
	p.open(3, 2, 30, api.OK)
	p.open(4, 2, 20, api.OK)
	p.open(5, 3, 10, api.OK)
	p.open(6, 1, 5, api.OK)
	p.charge(1, 1, api.OK)
	p.charge(3, 7, api.OK)
	p.charge(5, 2, api.OK)
	p.close(2, api.OK) // 3 and 4 are carved from 1 now, with what they had
	p.all(api.Node{Id: 1, Quota: 100, Used: 1}, api.Node{Id: 3, Up: 1, Quota: 30, Used: 7}, api.Node{Id: 4, Up: 1, Quota: 20}, api.Node{Id: 5, Up: 3, Quota: 10, Used: 2}, api.Node{Id: 6, Up: 1, Quota: 5})
	p.left(1, 44)
	p.left(2, 0)
	p.left(3, 13)
	p.close(2, api.ErrNone)
	p.charge(2, 0, api.ErrNone)
	p.refund(2, 0, api.ErrNone)
	p.open(7, 2, 0, api.ErrNone)
	p.refund(3, 7, api.OK)
	p.close(3, api.OK)
	p.left(1, 64)
	// The Id may be there again, and has nothing of what it had; nor is it 5's Up once more.
	p.open(3, 6, 2, api.OK)
	p.all(api.Node{Id: 1, Quota: 100, Used: 1}, api.Node{Id: 3, Up: 6, Quota: 2}, api.Node{Id: 4, Up: 1, Quota: 20}, api.Node{Id: 5, Up: 1, Quota: 10, Used: 2}, api.Node{Id: 6, Up: 1, Quota: 5})
	p.left(3, 2)
	p.close(6, api.OK)
	p.all(api.Node{Id: 1, Quota: 100, Used: 1}, api.Node{Id: 3, Up: 1, Quota: 2}, api.Node{Id: 4, Up: 1, Quota: 20}, api.Node{Id: 5, Up: 1, Quota: 10, Used: 2})
}

func TestCloseOfARow(t *testing.T) { // P11.2
	// Of a row in which each is carved from the one ahead of it, one is closed, then all.
	for gone := 2; gone <= 8; gone++ {
		p := made(t, 80)
		for id := 2; id <= 8; id++ {
			p.open(id, id-1, 90-10*id, api.OK)
		}
		p.close(gone, api.OK)
		if gone < 8 {
			if up := p.b.All()[gone-1].Up; up != gone-1 {
				t.Errorf("behind Close(%d) the Up of %d: %d, want %d", gone, gone+1, up, gone-1)
			}
		}
		for id := 2; id <= 8; id++ {
			if id != gone {
				p.close(id, api.OK)
			}
		}
		p.all(api.Node{Id: 1, Quota: 80})
		p.left(1, 80)
	}
}

func TestCloseErrors(t *testing.T) { // P11.2
	p := made(t, 10)
	for range 2 {
		for _, id := range offIds {
			p.close(id, api.ErrArg)
		}
		for _, id := range []int{2, 3, 8} {
			p.close(id, api.ErrNone)
		}
		p.close(1, api.ErrState) // used or not
		p.charge(1, 3, api.OK)
	}
	p.open(2, 1, 4, api.OK)
	p.close(1, api.ErrState)
	p.charge(2, 0, api.OK)
	p.charge(2, 2, api.OK)
	p.close(2, api.ErrState)
	p.refund(2, 1, api.OK)
	p.close(2, api.ErrState)
	p.refund(2, 1, api.OK)
	p.close(2, api.OK)
	// One of which nothing is used is closed, whatever those that are carved from it use.
	p.open(2, 1, 4, api.OK)
	p.open(3, 2, 4, api.OK)
	p.charge(3, 4, api.OK)
	p.close(3, api.ErrState)
	p.close(2, api.OK)
}

func TestChargeAndRefund(t *testing.T) { // P11.3
	for _, quota := range edges {
		for _, n := range edges {
			p := made(t, quota)
			if n > quota {
				p.charge(1, n, api.ErrFull)
				p.refund(1, n, api.ErrState)
				continue
			}
			p.charge(1, n, api.OK)
			p.left(1, quota-n)
			p.all(api.Node{Id: 1, Quota: quota, Used: n})
			if n < 65536 {
				p.refund(1, n+1, api.ErrState)
			}
			if quota-n < 65536 {
				p.charge(1, quota-n+1, api.ErrFull)
			}
			p.charge(1, quota-n, api.OK)
			p.left(1, 0)
			p.charge(1, 0, api.OK) // nothing is left, and nothing is asked for
			p.refund(1, n, api.OK)
			p.refund(1, quota-n, api.OK)
			p.refund(1, 0, api.OK)
			p.left(1, quota)
		}
	}
}

func TestChargeOfWhatIsLeft(t *testing.T) { // P11.3
	p := made(t, 20)
	p.open(2, 1, 8, api.OK)
	p.open(3, 2, 3, api.OK)
	p.charge(1, 13, api.ErrFull)
	p.charge(1, 12, api.OK)
	p.charge(1, 1, api.ErrFull)
	p.charge(2, 6, api.ErrFull)
	p.charge(2, 4, api.OK)
	p.charge(2, 2, api.ErrFull)
	p.charge(2, 1, api.OK)
	p.charge(3, 4, api.ErrFull)
	p.charge(3, 3, api.OK)
	// What one uses is not another's to give back.
	p.refund(1, 13, api.ErrState)
	p.refund(2, 6, api.ErrState)
	p.refund(3, 4, api.ErrState)
	p.all(api.Node{Id: 1, Quota: 20, Used: 12}, api.Node{Id: 2, Up: 1, Quota: 8, Used: 5}, api.Node{Id: 3, Up: 2, Quota: 3, Used: 3})
	p.refund(2, 5, api.OK)
	p.close(2, api.OK)
	p.charge(1, 5, api.OK)
	p.charge(1, 1, api.ErrFull)
}

func TestChargeAndRefundErrors(t *testing.T) { // P11.3
	p := made(t, 10)
	p.open(2, 1, 4, api.OK)
	p.charge(2, 1, api.OK)
	// ErrArg goes ahead of ErrNone, of ErrFull and of ErrState.
	for _, id := range append([]int{1, 2, 3, 8}, offIds...) {
		for _, n := range offNumbers {
			p.charge(id, n, api.ErrArg)
			p.refund(id, n, api.ErrArg)
		}
	}
	for _, n := range edges {
		for _, id := range offIds {
			p.charge(id, n, api.ErrArg)
			p.refund(id, n, api.ErrArg)
		}
		// ErrNone goes ahead of ErrFull and of ErrState.
		for _, id := range []int{3, 4, 8} {
			p.charge(id, n, api.ErrNone)
			p.refund(id, n, api.ErrNone)
		}
	}
}

func TestLeftOfNone(t *testing.T) { // P11.4
	p := made(t, 65536)
	p.open(2, 1, 7, api.OK)
	for range 2 {
		for _, id := range append([]int{3, 4, 5, 6, 7, 8}, offIds...) {
			p.left(id, 0)
		}
		p.left(1, 65529)
	}
	p.close(2, api.OK)
	p.left(2, 0)
	p.left(1, 65536)
}

func TestAllIsNewMemory(t *testing.T) { // P11.4
	p := made(t, 10)
	p.open(3, 1, 4, api.OK)
	first, second := p.b.All(), p.b.All()
	want := slices.Clone(second)
	for i := range first {
		first[i] = api.Node{Id: 7, Up: 7, Quota: 7, Used: 7}
	}
	_ = append(first, api.Node{Id: 8})
	p.same()
	p.charge(3, 1, api.OK)
	p.open(2, 1, 1, api.OK)
	p.close(2, api.OK)
	if !slices.Equal(second, want) {
		t.Errorf("an answer of All changes: %v, want %v", second, want)
	}
}

func TestBudgetsAreApart(t *testing.T) { // P11.1, P11.3
	a, b := made(t, 10), made(t, 10)
	a.open(2, 1, 3, api.OK)
	a.charge(1, 2, api.OK)
	b.same()
	b.open(2, 1, 9, api.OK)
	b.close(2, api.OK)
	a.same()
}

// step is a call: 0 to 3 are Open, Close, Charge and Refund.
type step struct{ what, id, up, n int }

// do does a step to both, and tells whether it was done.
func (p *pair) do(s step) bool {
	p.t.Helper()
	var got, want api.Errno
	switch s.what {
	case 0:
		got, want = p.b.Open(s.id, s.up, s.n), p.m.open(s.id, s.up, s.n)
	case 1:
		got, want = p.b.Close(s.id), p.m.close(s.id)
	case 2:
		got, want = p.b.Charge(s.id, s.n), p.m.charge(s.id, s.n)
	default:
		got, want = p.b.Refund(s.id, s.n), p.m.refund(s.id, s.n)
	}
	p.told("step ", []int{s.what, s.id, s.up, s.n}, got, want, want)
	return got == api.OK
}

// whole holds what all containers use, and what is left of them, against the first one's Quota.
func (p *pair) whole(quota int) {
	p.t.Helper()
	sum := 0
	for _, c := range p.b.All() {
		left := p.b.Left(c.Id)
		if left < 0 || c.Used < 0 {
			p.t.Fatalf("%v: left %d", c, left)
		}
		sum += c.Used + left
	}
	if sum != quota || p.b.All()[0] != (api.Node{Id: 1, Quota: quota, Used: p.m[1].used}) {
		p.t.Fatalf("all use and have left %d, want %d: %v", sum, quota, p.b.All())
	}
}

// stays does a step, and holds what is left of those that it may not touch against what was left of them ahead.
func (p *pair) stays(s step) {
	p.t.Helper()
	var was [9]int
	for id := range was {
		was[id] = p.b.Left(id)
	}
	touched := s.id
	up := s.up
	if s.what == 1 && isId(s.id) {
		up = p.m[s.id].up
	}
	done := p.do(s)
	for id := range was {
		mayChange := done && (id == touched || s.what < 2 && id == up)
		if now := p.b.Left(id); now != was[id] && !mayChange {
			p.t.Fatalf("step %v: left of %d: %d, it was %d", s, id, now, was[id])
		}
	}
}

// steps are all calls of the Ids from 1 to 3 and the numbers from 0 to 2.
func steps() []step {
	var l []step
	for id := 1; id <= 3; id++ {
		l = append(l, step{what: 1, id: id})
		for n := range 3 {
			l = append(l, step{what: 2, id: id, n: n}, step{what: 3, id: id, n: n})
			for up := 1; up <= 3; up++ {
				l = append(l, step{id: id, up: up, n: n})
			}
		}
	}
	return l
}

func TestAllShortRows(t *testing.T) { // P11.1 to P11.5
	l := steps()
	// Both calls come behind nothing, and behind 2 and 3 as they may stand: a row, a star, charged or not.
	begin := [][]step{
		{{0, 2, 1, 2}, {0, 3, 2, 1}},
		{{0, 3, 1, 2}, {0, 2, 3, 1}},
		{{0, 2, 1, 1}, {0, 3, 1, 1}, {2, 2, 0, 1}},
		{{0, 2, 1, 2}, {2, 2, 0, 1}, {0, 3, 2, 1}},
	}
	for quota := 1; quota <= 3; quota++ {
		for _, ahead := range append(begin, nil) {
			for _, first := range l {
				for _, second := range l {
					p := made(t, quota)
					for _, s := range ahead {
						p.do(s)
					}
					p.stays(first)
					p.stays(second)
					p.whole(quota)
				}
			}
		}
	}
}

func TestRowsOfSteps(t *testing.T) { // P11.1 to P11.5
	r := random(11)
	for range 60 {
		quota := edges[r.below(len(edges))]
		if r.below(2) == 0 {
			quota = r.below(40)
		}
		p := made(t, quota)
		for range 300 {
			s := step{what: r.below(4), id: r.below(10), up: r.below(10), n: r.below(quota/4 + 2)}
			switch r.below(12) {
			case 0:
				s.n = edges[r.below(len(edges))]
			case 1:
				s.n = offNumbers[r.below(len(offNumbers))]
			case 2:
				// Just what is left of one, or one more than that.
				s.n = p.b.Left(s.id) + r.below(2)
			case 3:
				s.id = offIds[r.below(len(offIds))]
			}
			p.stays(s)
			p.whole(quota)
		}
	}
}

func TestNothingIsLost(t *testing.T) { // P11.5
	// All that was charged is refunded, and all that was opened is closed, in any order: the budget is as it was.
	r := random(5)
	for range 200 {
		quota := r.below(60)
		p := made(t, quota)
		for range 60 {
			p.do(step{what: r.below(4), id: 1 + r.below(8), up: 1 + r.below(8), n: r.below(quota/3 + 2)})
		}
		l := p.b.All()
		for i := len(l) - 1; i > 0; i-- {
			j := r.below(i + 1)
			l[i], l[j] = l[j], l[i]
		}
		for _, c := range l {
			p.refund(c.Id, c.Used, api.OK)
			if c.Id != 1 {
				p.close(c.Id, api.OK)
			}
		}
		p.all(api.Node{Id: 1, Quota: quota})
		p.left(1, quota)
	}
}

func TestExamples(t *testing.T) {
	p := made(t, 10)
	p.open(2, 1, 4, api.OK)
	p.left(1, 6)
	p.charge(2, 3, api.OK)
	p.left(2, 1)
	p.open(3, 2, 2, api.ErrFull)
	p.open(3, 2, 1, api.OK)
	p.refund(2, 3, api.OK)
	p.close(2, api.OK)
	p.left(1, 9)
	p.all(api.Node{Id: 1, Quota: 10}, api.Node{Id: 3, Up: 1, Quota: 1})
}
