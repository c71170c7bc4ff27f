package queue_test

import (
	"math"
	"slices"
	"testing"

	"priory/api"
	"priory/queue"
)

// off are numbers that no queue has.
var off = []int{math.MinInt, math.MinInt + 1, math.MinInt + 8, -1 << 32, -1<<32 + 1, -1 << 31, -256, -255, -9, -8, -7, -2, -1, 0, 9, 10, 15, 16, 17, 63, 64, 65, 255, 256, 257, 264, 1 << 16, 1<<16 + 1, math.MaxInt32, 1 << 32, 1<<32 + 1, 1<<32 + 8, math.MaxInt - 7, math.MaxInt}

// random is a row of numbers that is always the same.
type random uint32

// below tells the next number, which is below n.
func (r *random) below(n int) int {
	*r = *r*1664525 + 1013904223
	return int(*r>>8) % n
}

// model is a queue as the document tells it: a row, the head first.
type model []int

// push puts a number behind all.
func (m *model) push(n int) api.Errno {
	switch {
	case n < 1 || n > 8:
		return api.ErrArg
	case slices.Contains(*m, n):
		return api.ErrThere
	}
	*m = append(slices.Clone(*m), n)
	return api.OK
}

// pop takes the head.
func (m *model) pop() (int, api.Errno) {
	if len(*m) == 0 {
		return 0, api.ErrNone
	}
	n := (*m)[0]
	*m = slices.Clone((*m)[1:])
	return n, api.OK
}

// drop takes a number, wherever it stands.
func (m *model) drop(n int) api.Errno {
	switch {
	case n < 1 || n > 8:
		return api.ErrArg
	case !slices.Contains(*m, n):
		return api.ErrNone
	}
	*m = slices.DeleteFunc(slices.Clone(*m), func(other int) bool { return other == n })
	return api.OK
}

// turn puts the head behind all.
func (m *model) turn() api.Errno {
	if len(*m) == 0 {
		return api.ErrNone
	}
	*m = append(slices.Clone((*m)[1:]), (*m)[0])
	return api.OK
}

// same holds a queue against its model.
func same(t *testing.T, q *queue.Queue, want model) {
	t.Helper()
	if got := q.All(); !slices.Equal(got, want) {
		t.Fatalf("All: %v, want %v", got, want)
	}
	head := 0
	if len(want) > 0 {
		head = want[0]
	}
	if n, ok := q.Head(); n != head || ok != (len(want) > 0) {
		t.Fatalf("Head: %d %t, the row is %v", n, ok, want)
	}
}

// filled is a queue of some numbers, whose head stands so many places on from the beginning.
func filled(t *testing.T, on int, l ...int) *queue.Queue {
	t.Helper()
	q := queue.New()
	for range on {
		pushes(t, q, 1, api.OK)
		pops(t, q, 1, api.OK)
	}
	for _, n := range l {
		pushes(t, q, n, api.OK)
	}
	same(t, q, l)
	return q
}

// pushes asks for what Push answers.
func pushes(t *testing.T, q *queue.Queue, n int, e api.Errno) {
	t.Helper()
	if err := q.Push(n); err != e {
		t.Fatalf("Push(%d): %d, want %d", n, err, e)
	}
}

// pops asks for what Pop answers.
func pops(t *testing.T, q *queue.Queue, want int, e api.Errno) {
	t.Helper()
	if n, err := q.Pop(); n != want || err != e {
		t.Fatalf("Pop: %d %d, want %d %d", n, err, want, e)
	}
}

// drops asks for what Drop answers.
func drops(t *testing.T, q *queue.Queue, n int, e api.Errno) {
	t.Helper()
	if err := q.Drop(n); err != e {
		t.Fatalf("Drop(%d): %d, want %d", n, err, e)
	}
}

// turns asks for what Turn answers.
func turns(t *testing.T, q *queue.Queue, e api.Errno) {
	t.Helper()
	if err := q.Turn(); err != e {
		t.Fatalf("Turn: %d, want %d", err, e)
	}
}

// rows tells all rows of numbers from 1 to 8, of which each stands at most once, up to a length.
func rows(most int) [][]int {
	all := [][]int{nil}
	for from := 0; from < len(all); from++ {
		row := all[from]
		if len(row) == most {
			continue
		}
		for n := 1; n <= 8; n++ {
			if !slices.Contains(row, n) {
				all = append(all, append(slices.Clone(row), n))
			}
		}
	}
	return all
}

// long are rows of more numbers, up to all of them.
var long = [][]int{
	{5, 4, 3, 2, 1},
	{8, 1, 7, 2, 6},
	{1, 2, 3, 4, 5, 6},
	{8, 6, 4, 2, 1, 3},
	{2, 3, 4, 5, 6, 7, 8},
	{7, 5, 3, 1, 8, 6, 4},
	{1, 2, 3, 4, 5, 6, 7, 8},
	{8, 7, 6, 5, 4, 3, 2, 1},
	{4, 8, 1, 5, 2, 7, 3, 6},
}

// each does something with every row, from each place that the head may stand at.
func each(most int, do func(on int, row []int)) {
	for _, row := range append(rows(most), long...) {
		for on := range 9 {
			do(on, row)
		}
	}
}

func TestNew(t *testing.T) { // P12.1
	q := queue.New()
	if q == nil {
		t.Fatal("New: nil")
	}
	same(t, q, nil)
	pops(t, q, 0, api.ErrNone)
	turns(t, q, api.ErrNone)
	same(t, q, nil)
	other := queue.New()
	pushes(t, other, 4, api.OK)
	same(t, q, nil)
	pushes(t, q, 5, api.OK)
	same(t, q, model{5})
	same(t, other, model{4})
}

func TestPush(t *testing.T) { // P12.1
	each(3, func(on int, row []int) {
		q := filled(t, on, row...)
		for n := 1; n <= 8; n++ {
			if slices.Contains(row, n) {
				pushes(t, q, n, api.ErrThere)
				same(t, q, row)
			}
		}
		want := slices.Clone(row)
		for n := 8; n >= 1; n-- {
			if !slices.Contains(row, n) {
				want = append(want, n)
				pushes(t, q, n, api.OK)
				same(t, q, want)
			}
		}
		for n := 1; n <= 8; n++ {
			pushes(t, q, n, api.ErrThere)
		}
		same(t, q, want)
	})
}

func TestPushOfNoNumber(t *testing.T) { // P12.1
	for _, l := range append(long, nil, []int{1}, []int{8}, []int{3, 1}) {
		q := filled(t, 3, l...)
		for _, n := range off {
			pushes(t, q, n, api.ErrArg)
		}
		same(t, q, l)
	}
}

func TestPop(t *testing.T) { // P12.1
	each(3, func(on int, row []int) {
		q := filled(t, on, row...)
		for i, n := range row {
			pops(t, q, n, api.OK)
			same(t, q, row[i+1:])
		}
		for range 2 {
			pops(t, q, 0, api.ErrNone)
			same(t, q, nil)
		}
		for i, n := range row {
			pushes(t, q, n, api.OK)
			same(t, q, row[:i+1])
		}
	})
}

func TestDrop(t *testing.T) { // P12.2
	each(3, func(on int, row []int) {
		for n := 1; n <= 8; n++ {
			q := filled(t, on, row...)
			want, e := model(row), api.ErrNone
			if i := slices.Index(row, n); i >= 0 {
				want, e = slices.Delete(slices.Clone(row), i, i+1), api.OK
			}
			drops(t, q, n, e)
			same(t, q, want)
			drops(t, q, n, api.ErrNone)
			same(t, q, want)
			pushes(t, q, n, api.OK)
			same(t, q, append(slices.Clone(want), n))
		}
	})
}

func TestDropOfAll(t *testing.T) { // P12.2
	row := []int{4, 8, 1, 5, 2, 7, 3, 6}
	for on := range 9 {
		for _, goes := range long {
			q := filled(t, on, row...)
			want := model(row)
			for _, n := range goes {
				if e := want.drop(n); e != api.OK {
					t.Fatalf("the model's Drop(%d): %d", n, e)
				}
				drops(t, q, n, api.OK)
				same(t, q, want)
			}
			for _, n := range slices.Clone(want) {
				pops(t, q, n, api.OK)
			}
			for _, n := range row {
				drops(t, q, n, api.ErrNone)
			}
			same(t, q, nil)
		}
	}
}

func TestDropOfNoNumber(t *testing.T) { // P12.2
	for _, l := range append(long, nil, []int{1}, []int{8}, []int{3, 1}) {
		q := filled(t, 6, l...)
		for _, n := range off {
			drops(t, q, n, api.ErrArg)
		}
		same(t, q, l)
	}
}

func TestTurn(t *testing.T) { // P12.2, P12.4
	each(3, func(on int, row []int) {
		q := filled(t, on, row...)
		if len(row) == 0 {
			turns(t, q, api.ErrNone)
			same(t, q, nil)
			return
		}
		for range 3 {
			var heads []int
			for i := range row {
				n, _ := q.Head()
				heads = append(heads, n)
				turns(t, q, api.OK)
				same(t, q, append(slices.Clone(row[i+1:]), row[:i+1]...))
			}
			if !slices.Equal(heads, row) {
				t.Fatalf("the heads of %v: %v", row, heads)
			}
			same(t, q, row)
		}
	})
}

func TestHead(t *testing.T) { // P12.3
	q := queue.New()
	for range 2 {
		if n, ok := q.Head(); n != 0 || ok {
			t.Fatalf("Head of an empty one: %d %t", n, ok)
		}
	}
	pushes(t, q, 7, api.OK)
	pushes(t, q, 2, api.OK)
	for range 2 {
		if n, ok := q.Head(); n != 7 || !ok {
			t.Fatalf("Head: %d %t", n, ok)
		}
	}
	drops(t, q, 7, api.OK)
	if n, ok := q.Head(); n != 2 || !ok {
		t.Fatalf("Head: %d %t", n, ok)
	}
	pops(t, q, 2, api.OK)
	if n, ok := q.Head(); n != 0 || ok {
		t.Fatalf("Head of one that became empty: %d %t", n, ok)
	}
}

func TestAllIsNewMemory(t *testing.T) { // P12.3
	for on := range 9 {
		row := []int{4, 8, 1, 5, 2, 7, 3, 6}
		q := filled(t, on, row...)
		l, other := q.All(), q.All()
		for i := range l {
			l[i] = 9
		}
		_ = append(l[:0], 1, 1, 1)
		if !slices.Equal(other, row) {
			t.Fatalf("another answer: %v", other)
		}
		same(t, q, row)
		drops(t, q, 5, api.OK)
		turns(t, q, api.OK)
		if !slices.Equal(other, row) {
			t.Fatalf("an answer of before: %v", other)
		}
	}
}

func TestFirstComesFirst(t *testing.T) { // P12.4
	for most := 1; most <= 8; most++ {
		q := queue.New()
		var waits, went []int
		next := 0
		for range 100 {
			for len(waits) < most {
				n := next%8 + 1
				next++
				waits = append(waits, n)
				pushes(t, q, n, api.OK)
			}
			for range 1 + next%most {
				n, err := q.Pop()
				if err != api.OK {
					t.Fatalf("Pop: %d", err)
				}
				went = append(went, n)
				waits = waits[1:]
			}
			same(t, q, waits)
		}
		for i, n := range went {
			if n != i%8+1 {
				t.Fatalf("%d of %d came %d, want %d", n, most, i, i%8+1)
			}
		}
	}
}

func TestOfNoQueue(t *testing.T) { // P12.1, P12.2, P12.3
	for name, q := range map[string]*queue.Queue{"nil": nil, "zero": {}} {
		for _, n := range append([]int{1, 2, 7, 8}, off...) {
			pushes(t, q, n, api.ErrNil)
			drops(t, q, n, api.ErrNil)
			pops(t, q, 0, api.ErrNil)
			turns(t, q, api.ErrNil)
			if n, ok := q.Head(); n != 0 || ok {
				t.Fatalf("Head of a %s queue: %d %t", name, n, ok)
			}
			if l := q.All(); len(l) != 0 {
				t.Fatalf("All of a %s queue: %v", name, l)
			}
		}
	}
}

// step does one call on a queue and its model, and holds what they answer against each other.
func step(t *testing.T, q *queue.Queue, m *model, what, n int) {
	t.Helper()
	switch what {
	case 0:
		pushes(t, q, n, m.push(n))
	case 1:
		want, e := m.pop()
		pops(t, q, want, e)
	case 2:
		drops(t, q, n, m.drop(n))
	case 3:
		turns(t, q, m.turn())
	}
	same(t, q, *m)
}

func TestRowsOfSteps(t *testing.T) { // P12.1, P12.2, P12.3, P12.4
	for seed := range 200 {
		r := random(seed)
		q, m := queue.New(), model(nil)
		for range 300 {
			// Half of the rows push more than they take, so that they are often full.
			what := []int{0, 0, 1, 2, 3, 3, 0, 0}[r.below(6+2*(seed%2))]
			step(t, q, &m, what, r.below(10))
		}
	}
}

func TestShortRowsOfSteps(t *testing.T) { // P12.1, P12.2, P12.3, P12.4
	// A step is a call with 1, 2 or 3, as three numbers tell all that a row may be in so few steps.
	for row := range 8 * 8 * 8 * 8 * 8 {
		q, m := queue.New(), model(nil)
		for i := row; i > 0; i /= 8 {
			step(t, q, &m, []int{0, 0, 0, 1, 2, 2, 2, 3}[i%8], []int{1, 2, 3, 0, 1, 2, 3, 0}[i%8])
		}
	}
}

func TestTwoQueues(t *testing.T) { // P12.1, P12.2, P12.3
	r := random(7)
	q, m := [2]*queue.Queue{queue.New(), queue.New()}, [2]model{}
	for range 2000 {
		i := r.below(2)
		step(t, q[i], &m[i], r.below(4), r.below(10))
		same(t, q[1-i], m[1-i])
	}
}

func TestChapter(t *testing.T) { // P12.1, P12.2, P12.3
	q := queue.New()
	pushes(t, q, 3, api.OK)
	pushes(t, q, 1, api.OK)
	pushes(t, q, 3, api.ErrThere)
	same(t, q, model{3, 1})
	turns(t, q, api.OK)
	same(t, q, model{1, 3})
	drops(t, q, 1, api.OK)
	pops(t, q, 3, api.OK)
	pops(t, q, 0, api.ErrNone)
}
