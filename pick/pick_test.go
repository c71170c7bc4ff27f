package pick_test

import (
	"math"
	"slices"
	"testing"

	"priory/api"
	"priory/pick"
)

// off are numbers that no set has.
var off = []int{math.MinInt, math.MinInt + 1, -1 << 32, -1<<32 + 5, -1 << 31, -1024, -64, -63, -2, -1, 1024, 1025, 1026, 1087, 1088, 2047, 2048, 1 << 16, math.MaxInt32, 1 << 32, 1<<32 + 1, 1<<32 + 1023, math.MaxInt - 1023, math.MaxInt - 1, math.MaxInt}

// edges are numbers that a set may have, at the ends and about the multiples of 2.
var edges = []int{0, 1, 2, 7, 8, 31, 32, 33, 62, 63, 64, 65, 127, 128, 255, 256, 511, 512, 958, 959, 960, 961, 1022, 1023}

// random is a row of numbers that is always the same.
type random uint32

// below tells the next number, which is below n.
func (r *random) below(n int) int {
	*r = *r*1664525 + 1013904223
	return int(*r>>8) % n
}

// model is a set as the document tells it: is the number there?
type model [1024]bool

// all tells the model's numbers, rising.
func (m *model) all() []int {
	var l []int
	for n, there := range m {
		if there {
			l = append(l, n)
		}
	}
	return l
}

// of is the model that has some numbers.
func of(l ...int) *model {
	m := new(model)
	for _, n := range l {
		m[n] = true
	}
	return m
}

// made is a set that New answers, which must do so.
func made(t *testing.T, from, many int) *pick.Set {
	t.Helper()
	s, err := pick.New(from, many)
	if s == nil || err != api.OK {
		t.Fatalf("New(%d, %d): %v %d", from, many, s, err)
	}
	return s
}

// filled is a set of some numbers, by Put, and its model.
func filled(t *testing.T, l ...int) (*pick.Set, *model) {
	t.Helper()
	s := made(t, 0, 0)
	for _, n := range l {
		if err := s.Put(n); err != api.OK {
			t.Fatalf("Put(%d): %d", n, err)
		}
	}
	return s, of(l...)
}

// short holds All and Len against the model.
func short(t *testing.T, s *pick.Set, want *model) {
	t.Helper()
	l := want.all()
	if got := s.All(); !slices.Equal(got, l) {
		t.Fatalf("All: %v, want %v", got, l)
	}
	if got := s.Len(); got != len(l) {
		t.Fatalf("Len: %d, want %d", got, len(l))
	}
}

// same holds a whole set against its model.
func same(t *testing.T, s *pick.Set, want *model) {
	t.Helper()
	short(t, s, want)
	for n, there := range want {
		if s.Has(n) != there {
			t.Fatalf("Has(%d): %t, want %t", n, !there, there)
		}
	}
	for _, n := range off {
		if s.Has(n) {
			t.Fatalf("Has(%d): there is no such number", n)
		}
	}
}

// takes asks for the least one.
func takes(t *testing.T, s *pick.Set, want int, e api.Errno) {
	t.Helper()
	if n, err := s.Take(); n != want || err != e {
		t.Fatalf("Take: %d %d, want %d %d", n, err, want, e)
	}
}

// taken takes till nothing is left, and tells the numbers.
func taken(t *testing.T, s *pick.Set) []int {
	t.Helper()
	var l []int
	for range 1024 {
		n, err := s.Take()
		if err != api.OK {
			break
		}
		l = append(l, n)
	}
	takes(t, s, 0, api.ErrNone)
	same(t, s, new(model))
	return l
}

func TestNew(t *testing.T) { // P8.1
	for from := range 1024 {
		for _, many := range []int{0, 1, 2, 63, 64, 65, 512, 1023 - from, 1024 - from} {
			if many > 1024-from {
				continue
			}
			want := new(model)
			for i := range many {
				want[from+i] = true
			}
			short(t, made(t, from, many), want)
		}
	}
	for _, from := range edges {
		for _, n := range edges {
			want := new(model)
			for i := from; i < n; i++ {
				want[i] = true
			}
			same(t, made(t, from, max(n-from, 0)), want)
		}
	}
}

func TestNewThatMayNotBe(t *testing.T) { // P8.1
	refused := func(from, many int) {
		t.Helper()
		if s, err := pick.New(from, many); s != nil || err != api.ErrArg {
			t.Errorf("New(%d, %d): %v %d, want ErrArg", from, many, s, err)
		}
	}
	for _, from := range off {
		// from is asked where there are no numbers, too.
		for _, many := range append([]int{0, 1, 2, 1023, -from, 1 - from, 2 - from, 1023 - from, 1024 - from}, off...) {
			refused(from, many)
		}
	}
	for _, from := range edges {
		for _, many := range []int{1025 - from, 1026 - from, 1024, 1025, 2048, math.MaxInt - from, math.MaxInt - from + 1, math.MaxInt} {
			if many > 1024-from {
				refused(from, many)
			}
		}
		for _, many := range append([]int{-from - 1, -from}, off...) {
			if many < 0 {
				refused(from, many)
			}
		}
	}
}

func TestNoSet(t *testing.T) { // P8.1, P8.2
	none, _ := pick.New(0, 1025)
	for _, s := range []*pick.Set{nil, none, {}, new(pick.Set)} {
		for range 2 {
			takes(t, s, 0, api.ErrNil)
			// ErrNil goes ahead of ErrArg, and nothing of this stays.
			for _, n := range append(slices.Clone(edges), off...) {
				if err := s.Put(n); err != api.ErrNil {
					t.Errorf("Put(%d): %d, want ErrNil", n, err)
				}
				if err := s.Drop(n); err != api.ErrNil {
					t.Errorf("Drop(%d): %d, want ErrNil", n, err)
				}
			}
			same(t, s, new(model))
		}
	}
}

func TestEmpty(t *testing.T) { // P8.1, P8.2
	for _, from := range edges {
		s := made(t, from, 0)
		same(t, s, new(model))
		takes(t, s, 0, api.ErrNone)
		takes(t, s, 0, api.ErrNone)
		for n := range 1024 {
			if err := s.Drop(n); err != api.ErrNone {
				t.Errorf("Drop(%d): %d, want ErrNone", n, err)
			}
		}
		same(t, s, new(model))
		// It is a set for all that: what is put is there.
		if err := s.Put(1023 - from); err != api.OK {
			t.Errorf("Put(%d): %d", 1023-from, err)
		}
		same(t, s, of(1023-from))
	}
}

func TestAllIsNewMemory(t *testing.T) { // P8.1
	s, want := filled(t, edges...)
	first, second := s.All(), s.All()
	for i := range first {
		first[i] = 7
	}
	_ = append(first, 1, 2, 3)
	same(t, s, want)
	if !slices.Equal(second, edges) {
		t.Errorf("two answers of All share memory: %v", second)
	}
	takes(t, s, 0, api.OK)
	if !slices.Equal(second, edges) {
		t.Errorf("an answer of All changes with the set: %v", second)
	}
}

func TestTake(t *testing.T) { // P8.2
	for n := range 1024 {
		s, _ := filled(t, n)
		takes(t, s, n, api.OK)
		takes(t, s, 0, api.ErrNone)
		short(t, s, new(model))
	}
	// The least is taken, however they were put.
	for _, l := range [][]int{edges, backwards(edges), {64, 63}, {1023, 0}, {63, 64, 62, 65}, {128, 1, 64}} {
		s, want := filled(t, l...)
		for _, n := range want.all() {
			takes(t, s, n, api.OK)
			want[n] = false
			same(t, s, want)
		}
		takes(t, s, 0, api.ErrNone)
	}
}

// backwards is a list from its end on.
func backwards(l []int) []int {
	l = slices.Clone(l)
	slices.Reverse(l)
	return l
}

func TestPut(t *testing.T) { // P8.2
	s, want := made(t, 0, 0), new(model)
	// 389 and 1024 have no common part: each number comes once.
	for i := range 1024 {
		n := i * 389 % 1024
		if err := s.Put(n); err != api.OK {
			t.Fatalf("Put(%d): %d", n, err)
		}
		want[n] = true
		short(t, s, want)
		if err := s.Put(n); err != api.ErrThere {
			t.Fatalf("Put(%d) once more: %d, want ErrThere", n, err)
		}
		short(t, s, want)
	}
	same(t, s, want)
	for n := range 1024 {
		if err := s.Put(n); err != api.ErrThere {
			t.Fatalf("Put(%d) into all: %d, want ErrThere", n, err)
		}
	}
	same(t, s, want)
}

func TestDrop(t *testing.T) { // P8.2
	s, want := made(t, 0, 1024), of(made(t, 0, 1024).All()...)
	for i := range 1024 {
		n := i * 389 % 1024
		if err := s.Drop(n); err != api.OK {
			t.Fatalf("Drop(%d): %d", n, err)
		}
		want[n] = false
		short(t, s, want)
		if err := s.Drop(n); err != api.ErrNone {
			t.Fatalf("Drop(%d) once more: %d, want ErrNone", n, err)
		}
		short(t, s, want)
	}
	same(t, s, new(model))
	takes(t, s, 0, api.ErrNone)
}

func TestNumbersThatMayNotBe(t *testing.T) { // P8.2
	empty := made(t, 0, 0)
	some, want := filled(t, edges...)
	full := made(t, 0, 1024)
	for _, n := range off {
		for _, s := range []*pick.Set{empty, some, full} {
			if err := s.Put(n); err != api.ErrArg {
				t.Errorf("Put(%d): %d, want ErrArg", n, err)
			}
			if err := s.Drop(n); err != api.ErrArg {
				t.Errorf("Drop(%d): %d, want ErrArg", n, err)
			}
		}
		same(t, empty, new(model))
		same(t, some, want)
		short(t, full, of(full.All()...))
		if full.Len() != 1024 {
			t.Errorf("Len behind %d: %d, want 1024", n, full.Len())
		}
	}
}

func TestTakenAndPutAgain(t *testing.T) { // P8.3
	r := random(8)
	for range 50 {
		s, want := thrown(t, &r)
		for range 20 {
			n, err := s.Take()
			if err != api.OK {
				break
			}
			if err := s.Put(n); err != api.OK {
				t.Fatalf("Put(%d) behind Take: %d", n, err)
			}
			same(t, s, want)
		}
		// All of them are taken, and put again in another order.
		l := taken(t, s)
		for _, n := range backwards(l) {
			if err := s.Put(n); err != api.OK {
				t.Fatalf("Put(%d) behind Take: %d", n, err)
			}
		}
		same(t, s, want)
	}
}

// thrown is a set of any numbers, and its model.
func thrown(t *testing.T, r *random) (*pick.Set, *model) {
	t.Helper()
	var l []int
	part := r.below(9)
	for n := range 1024 {
		if r.below(8) < part {
			l = append(l, n)
		}
	}
	return filled(t, l...)
}

func TestTakingTellsAll(t *testing.T) { // P8.3
	for _, x := range [][2]int{{0, 0}, {0, 1024}, {1, 1023}, {1023, 1}, {60, 8}, {64, 64}} {
		s := made(t, x[0], x[1])
		if all, l := s.All(), taken(t, s); !slices.Equal(l, all) || len(l) != x[1] {
			t.Errorf("of New(%d, %d) there was taken %v, want %v", x[0], x[1], l, all)
		}
	}
	r := random(2)
	for range 100 {
		s, want := thrown(t, &r)
		if all, l := s.All(), taken(t, s); !slices.Equal(l, all) || !slices.Equal(l, want.all()) {
			t.Errorf("there was taken %v, want %v", l, want.all())
		}
	}
}

func TestRowsOfSteps(t *testing.T) { // P8.1, P8.2, P8.3
	r := random(1)
	s, want := made(t, 100, 200), new(model)
	for n := 100; n < 300; n++ {
		want[n] = true
	}
	for step := range 6000 {
		n := r.below(1026) - 1
		// Often the same few, so that what is there, and what is not, are both met.
		if r.below(2) == 0 {
			n = edges[r.below(len(edges))]
		}
		isNumber := n >= 0 && n < 1024
		var err, e api.Errno
		switch what := r.below(5); {
		case what == 0:
			if l := want.all(); len(l) == 0 {
				takes(t, s, 0, api.ErrNone)
			} else {
				takes(t, s, l[0], api.OK)
				want[l[0]] = false
			}
		case what < 3:
			err = s.Put(n)
			switch {
			case !isNumber:
				e = api.ErrArg
			case want[n]:
				e = api.ErrThere
			default:
				want[n] = true
			}
		default:
			err = s.Drop(n)
			switch {
			case !isNumber:
				e = api.ErrArg
			case !want[n]:
				e = api.ErrNone
			default:
				want[n] = false
			}
		}
		if err != e {
			t.Fatalf("step %d, of %d: %d, want %d", step, n, err, e)
		}
		same(t, s, want)
	}
}

func TestSetsAreApart(t *testing.T) { // P8.1, P8.2
	a, b := made(t, 10, 3), made(t, 10, 3)
	takes(t, a, 10, api.OK)
	if err := a.Put(5); err != api.OK {
		t.Errorf("Put(5): %d", err)
	}
	same(t, b, of(10, 11, 12))
	same(t, a, of(5, 11, 12))
}

func TestExamples(t *testing.T) {
	s := made(t, 3, 2)
	same(t, s, of(3, 4))
	takes(t, s, 3, api.OK)
	if err := s.Put(4); err != api.ErrThere {
		t.Errorf("Put(4): %d", err)
	}
	if err := s.Put(0); err != api.OK {
		t.Errorf("Put(0): %d", err)
	}
	takes(t, s, 0, api.OK)
	if err := s.Drop(4); err != api.OK {
		t.Errorf("Drop(4): %d", err)
	}
	takes(t, s, 0, api.ErrNone)
}
