package region_test

import (
	"math"
	"slices"
	"strings"
	"testing"

	"priory/api"
	"priory/region"
)

// off are numbers of no page.
var off = []int{math.MinInt, math.MinInt + 1, math.MinInt + 3, -1 << 32, -1<<32 + 3, -1 << 31, -1025, -1024, -1023, -1021, -256, -2, -1, 1024, 1025, 1027, 2047, 2048, 2051, 1 << 16, 1<<16 + 3, math.MaxInt32, 1 << 32, 1<<32 + 3, math.MaxInt - 1023, math.MaxInt - 1, math.MaxInt}

// random is a row of numbers that is always the same.
type random uint32

// below tells the next number, which is below n.
func (r *random) below(n int) int {
	*r = *r*1664525 + 1013904223
	return int(*r>>8) % n
}

// model is a letter for each page: '.' if it is in no area, 'r' if it may not be written to, 'w' if it may.
type model [1024]byte

// empty is the model of no areas.
func empty() *model {
	var m model
	for i := range m {
		m[i] = '.'
	}
	return &m
}

// letter tells what a page is that may be written to, or may not.
func letter(write bool) byte {
	if write {
		return 'w'
	}
	return 'r'
}

// put puts a letter at some pages.
func (m *model) put(from, many int, c byte) *model {
	for page := from; page < from+many; page++ {
		m[page] = c
	}
	return m
}

// with is a model which has a letter at some pages and is else the same.
func (m *model) with(from, many int, c byte) *model {
	next := *m
	return next.put(from, many, c)
}

// of is the model of areas.
func of(l []api.Area) *model {
	m := empty()
	for _, a := range l {
		m.put(a.From, a.Many, letter(a.Write))
	}
	return m
}

// areas tells the form, however many areas it has: each run of one letter.
func (m *model) areas() []api.Area {
	var l []api.Area
	for from := 0; from < 1024; {
		run := 1
		for from+run < 1024 && m[from+run] == m[from] {
			run++
		}
		if m[from] != '.' {
			l = append(l, api.Area{From: from, Many: run, Write: m[from] == 'w'})
		}
		from += run
	}
	return l
}

// count tells how many of those pages have the letter.
func (m *model) count(from, many int, c byte) int {
	return strings.Count(string(m[from:from+many]), string(c))
}

// may: are there such pages?
func may(from, many int) bool {
	return from >= 0 && from <= 1023 && many >= 1 && many <= 1024 && from+many <= 1024
}

// changed tells a model's form, or that it is too many areas.
func (m *model) changed() ([]api.Area, api.Errno) {
	l := m.areas()
	if len(l) > 8 {
		return nil, api.ErrFull
	}
	return l, api.OK
}

// add: P14.2.
func (m *model) add(a api.Area) ([]api.Area, api.Errno) {
	if !may(a.From, a.Many) {
		return nil, api.ErrArg
	}
	if m.count(a.From, a.Many, '.') != a.Many {
		return nil, api.ErrThere
	}
	return m.with(a.From, a.Many, letter(a.Write)).changed()
}

// turn: P14.3, Cut by '.' and Set by the other letters.
func (m *model) turn(from, many int, c byte) ([]api.Area, api.Errno) {
	if !may(from, many) {
		return nil, api.ErrArg
	}
	if m.count(from, many, '.') != 0 {
		return nil, api.ErrNone
	}
	return m.with(from, many, c).changed()
}

// alone sees to it that a call leaves what it is handed as it is, spare room behind it included, and answers new memory.
func alone(t *testing.T, l []api.Area, call func(l []api.Area) []api.Area) {
	t.Helper()
	room := make([]api.Area, len(l), len(l)+20)
	copy(room, l)
	spare := room[len(l):cap(room)]
	for i := range spare {
		spare[i] = api.Area{From: 77, Many: 7, Write: true}
	}
	told := call(room)
	before := slices.Clone(told)
	if !slices.Equal(room, l) || slices.ContainsFunc(spare, func(a api.Area) bool { return a != api.Area{From: 77, Many: 7, Write: true} }) {
		t.Fatalf("%v was changed: %v %v", l, room, spare)
	}
	for i := range room[:cap(room)] {
		room[:cap(room)][i] = api.Area{From: 99}
	}
	if !slices.Equal(told, before) {
		t.Fatalf("an answer, %v, changes with what was handed in", before)
	}
}

// told holds an answer of Add, Cut or Set against what it should be.
func told(t *testing.T, call string, l []api.Area, a api.Area, got []api.Area, err api.Errno, want []api.Area, wantErr api.Errno) {
	t.Helper()
	if !slices.Equal(got, want) || err != wantErr {
		t.Fatalf("%s of %v, %v: %v %d, want %v %d", call, l, a, got, err, want, wantErr)
	}
	if e := region.Check(got); e != api.OK {
		t.Fatalf("%s of %v, %v: %v is not right: %d", call, l, a, got, e)
	}
}

// adds holds Add against a model.
func adds(t *testing.T, l []api.Area, m *model, a api.Area) ([]api.Area, api.Errno) {
	t.Helper()
	got, err := region.Add(l, a)
	want, wantErr := m.add(a)
	told(t, "Add", l, a, got, err, want, wantErr)
	if err == api.OK {
		back, e := region.Cut(got, a.From, a.Many)
		told(t, "Cut, behind Add,", got, a, back, e, l, api.OK)
	}
	return got, err
}

// cuts holds Cut against a model.
func cuts(t *testing.T, l []api.Area, m *model, from, many int) ([]api.Area, api.Errno) {
	t.Helper()
	got, err := region.Cut(l, from, many)
	want, wantErr := m.turn(from, many, '.')
	told(t, "Cut", l, api.Area{From: from, Many: many}, got, err, want, wantErr)
	return got, err
}

// sets holds Set against a model.
func sets(t *testing.T, l []api.Area, m *model, from, many int, write bool) ([]api.Area, api.Errno) {
	t.Helper()
	got, err := region.Set(l, from, many, write)
	want, wantErr := m.turn(from, many, letter(write))
	told(t, "Set", l, api.Area{From: from, Many: many, Write: write}, got, err, want, wantErr)
	return got, err
}

// covers holds Covers against a model.
func covers(t *testing.T, l []api.Area, m *model, from, many int) {
	t.Helper()
	want := may(from, many) && m.count(from, many, '.') == 0
	if got := region.Covers(l, from, many); got != want {
		t.Fatalf("Covers of %v, %d, %d: %v", l, from, many, got)
	}
}

// finds holds Find against a model, of pages that there are and of such as there are not.
func finds(t *testing.T, l []api.Area, m *model, page int) {
	t.Helper()
	c := byte('.')
	if page >= 0 && page <= 1023 {
		c = m[page]
	}
	if write, is := region.Find(l, page); write != (c == 'w') || is != (c != '.') {
		t.Fatalf("Find of %v, %d: %v %v, but it is %c", l, page, write, is, c)
	}
}

// same holds areas against a model: that they are right, each page of them, and how many there are.
func same(t *testing.T, l []api.Area, m *model) {
	t.Helper()
	if err := region.Check(l); err != api.OK {
		t.Fatalf("Check of %v: %d", l, err)
	}
	for page := -1; page <= 1024; page++ {
		finds(t, l, m, page)
	}
	if got, want := region.Pages(l), 1024-m.count(0, 1024, '.'); got != want {
		t.Fatalf("Pages of %v: %d, want %d", l, got, want)
	}
}

// wrong sees to it that areas are not right for any call.
func wrong(t *testing.T, l []api.Area) {
	t.Helper()
	if err := region.Check(l); err != api.ErrArg {
		t.Fatalf("Check of %v: %d", l, err)
	}
	if n := region.Pages(l); n != 0 {
		t.Fatalf("Pages of %v: %d", l, n)
	}
	for _, page := range []int{-1, 0, 1, 2, 3, 4, 5, 6, 100, 1023, 1024} {
		if write, is := region.Find(l, page); write || is {
			t.Fatalf("Find of %v, %d: %v %v", l, page, write, is)
		}
		if region.Covers(l, page, 1) {
			t.Fatalf("Covers of %v, %d", l, page)
		}
		got, err := region.Add(l, api.Area{From: page, Many: 1, Write: true})
		told(t, "Add", l, api.Area{From: page, Many: 1}, got, err, nil, api.ErrArg)
		got, err = region.Cut(l, page, 1)
		told(t, "Cut", l, api.Area{From: page, Many: 1}, got, err, nil, api.ErrArg)
		got, err = region.Set(l, page, 1, true)
		told(t, "Set", l, api.Area{From: page, Many: 1}, got, err, nil, api.ErrArg)
	}
}

// right: are areas right, as the chapter's words have it, told pair by pair and page by page?
func right(l []api.Area) bool {
	if len(l) > 8 {
		return false
	}
	for _, a := range l {
		if !may(a.From, a.Many) {
			return false
		}
	}
	for i, a := range l {
		for _, b := range l[i+1:] {
			if b.From <= a.From {
				return false
			}
			for page := a.From; page < a.From+a.Many; page++ {
				if page >= b.From && page < b.From+b.Many {
					return false
				}
			}
			if a.From+a.Many == b.From && a.Write == b.Write {
				return false
			}
		}
	}
	return true
}

// checks holds Check against what right tells, and all else too.
func checks(t *testing.T, l []api.Area) {
	t.Helper()
	if right(l) {
		same(t, l, of(l))
	} else {
		wrong(t, l)
	}
}

// few are pages at the beginning, at a table's edge and at the end, of which tests make all areas.
var few = []int{0, 30, 1019}

// states tells all models of five pages from one on, and their areas.
func states(from int, each func(l []api.Area, m *model)) {
	for n := range 243 {
		m := empty()
		for i := range 5 {
			m[from+i] = ".rw"[n%3]
			n /= 3
		}
		each(m.areas(), m)
	}
}

// eight are as many areas as there may be: of one page each, the even pages from one on, each second one written to.
func eight(from int) []api.Area {
	var l []api.Area
	for i := range 8 {
		l = append(l, api.Area{From: from + 2*i, Many: 1, Write: i%2 == 1})
	}
	return l
}

// P14.1: areas that are right, and such as are not.
func TestCheck(t *testing.T) {
	for _, l := range [][]api.Area{
		nil,
		{},
		{{From: 0, Many: 1}},
		{{From: 0, Many: 1024, Write: true}},
		{{From: 1023, Many: 1}},
		{{From: 0, Many: 1}, {From: 1, Many: 1, Write: true}},
		{{From: 0, Many: 1}, {From: 2, Many: 1}},
		{{From: 0, Many: 512}, {From: 512, Many: 512, Write: true}},
		eight(0),
		eight(1008),
	} {
		checks(t, l)
		if region.Check(l) != api.OK {
			t.Errorf("%v: not right", l)
		}
	}
	for _, l := range [][]api.Area{
		{{}},
		{{From: 0, Many: 0, Write: true}},
		{{From: 0, Many: 1025}},
		{{From: 1, Many: 1024}},
		{{From: 1023, Many: 2}},
		{{From: 1024, Many: 1}},
		{{From: 1024, Many: 0}},
		{{From: -1, Many: 1}},
		{{From: -1, Many: 2}},
		{{From: 2, Many: -1}},
		{{From: 0, Many: 1}, {From: 1, Many: 1}},
		{{From: 0, Many: 1, Write: true}, {From: 1, Many: 1, Write: true}},
		{{From: 0, Many: 2}, {From: 1, Many: 1, Write: true}},
		{{From: 0, Many: 2}, {From: 0, Many: 2}},
		{{From: 2, Many: 1}, {From: 0, Many: 1}},
		{{From: 1, Many: 1}, {From: 0, Many: 1, Write: true}},
		{{From: 0, Many: 1024}, {From: 1024, Many: 1, Write: true}},
		{{From: 0, Many: 1}, {From: 2, Many: 0}, {From: 4, Many: 1}},
		append(eight(0), api.Area{From: 16, Many: 1}),
		append(eight(0), eight(0)...),
		make([]api.Area, 1000),
	} {
		wrong(t, l)
	}
}

// P14.1: numbers that are no pages', and such as go round when they are added up.
func TestCheckOff(t *testing.T) {
	for _, n := range off {
		wrong(t, []api.Area{{From: n, Many: 1}})
		wrong(t, []api.Area{{From: 3, Many: 1}, {From: n, Many: 1, Write: true}})
		wrong(t, []api.Area{{From: n, Many: 1}, {From: 3, Many: 1, Write: true}})
		if n != 1024 {
			wrong(t, []api.Area{{From: 0, Many: n}})
		}
		wrong(t, []api.Area{{From: 3, Many: n}})
		wrong(t, []api.Area{{From: 1023, Many: n, Write: true}})
		wrong(t, []api.Area{{From: 3, Many: 1}, {From: 5, Many: n}})
		for _, k := range off {
			wrong(t, []api.Area{{From: n, Many: k}})
		}
	}
}

// P14.1: all areas of few pages, one and two of them, and three of fewer.
func TestCheckAll(t *testing.T) {
	for _, from := range few {
		var l []api.Area
		for a := -1; a <= 5; a++ {
			for many := -1; many <= 6; many++ {
				l = append(l, api.Area{From: from + a, Many: many}, api.Area{From: from + a, Many: many, Write: true})
			}
		}
		for _, a := range l {
			checks(t, []api.Area{a})
			for _, b := range l {
				if pair := []api.Area{a, b}; (region.Check(pair) == api.OK) != right(pair) {
					t.Fatalf("Check of %v: %d", pair, region.Check(pair))
				}
			}
		}
	}
	var l []api.Area
	for n := range 16 {
		l = append(l, api.Area{From: n % 4, Many: 1 + n/4%2, Write: n/8 == 1})
	}
	for n := range 16 * 16 * 16 {
		checks(t, []api.Area{l[n%16], l[n/16%16], l[n/256]})
	}
}

// P14.1: of all states of few pages, Find and Pages of all pages, Covers of all that may be near them.
func TestFindCoversPages(t *testing.T) {
	for _, at := range few {
		states(at, func(l []api.Area, m *model) {
			same(t, l, m)
			for from := at - 2; from <= at+6; from++ {
				for many := -2; many <= 7; many++ {
					covers(t, l, m, from, many)
				}
			}
		})
	}
	for _, l := range [][]api.Area{nil, {}, {{From: 0, Many: 1024}}, {{From: 0, Many: 7}, {From: 7, Many: 1017, Write: true}}, eight(0), eight(1009)} {
		m := of(l)
		same(t, l, m)
		for _, n := range append(off, 0, 1, 7, 15, 1008, 1023) {
			finds(t, l, m, n)
			for _, k := range append(off, 0, 1, 2, 1017, 1023) {
				covers(t, l, m, n, k)
				covers(t, l, m, k, n)
			}
		}
	}
}

// P14.2, P14.3, P14.4: of all states of few pages, all that may be asked near them.
func TestAll(t *testing.T) {
	for _, at := range few {
		states(at, func(l []api.Area, m *model) {
			for from := at - 1; from <= at+5; from++ {
				for many := 0; many <= 6; many++ {
					for _, write := range []bool{false, true} {
						adds(t, l, m, api.Area{From: from, Many: many, Write: write})
						sets(t, l, m, from, many, write)
					}
					cuts(t, l, m, from, many)
				}
			}
		})
	}
}

// P14.2: an area is joined to those beside it whose pages are as its own, and to no others.
func TestAddJoins(t *testing.T) {
	l := []api.Area{{From: 10, Many: 2, Write: true}, {From: 13, Many: 1, Write: true}, {From: 15, Many: 1}}
	for _, c := range []struct {
		a    api.Area
		want []api.Area
	}{
		{api.Area{From: 12, Many: 1, Write: true}, []api.Area{{From: 10, Many: 4, Write: true}, {From: 15, Many: 1}}},
		{api.Area{From: 12, Many: 1}, []api.Area{{From: 10, Many: 2, Write: true}, {From: 12, Many: 1}, {From: 13, Many: 1, Write: true}, {From: 15, Many: 1}}},
		{api.Area{From: 14, Many: 1}, []api.Area{{From: 10, Many: 2, Write: true}, {From: 13, Many: 1, Write: true}, {From: 14, Many: 2}}},
		{api.Area{From: 14, Many: 1, Write: true}, []api.Area{{From: 10, Many: 2, Write: true}, {From: 13, Many: 2, Write: true}, {From: 15, Many: 1}}},
		{api.Area{From: 0, Many: 10, Write: true}, []api.Area{{From: 0, Many: 12, Write: true}, {From: 13, Many: 1, Write: true}, {From: 15, Many: 1}}},
		{api.Area{From: 0, Many: 9, Write: true}, []api.Area{{From: 0, Many: 9, Write: true}, {From: 10, Many: 2, Write: true}, {From: 13, Many: 1, Write: true}, {From: 15, Many: 1}}},
		{api.Area{From: 16, Many: 1008}, []api.Area{{From: 10, Many: 2, Write: true}, {From: 13, Many: 1, Write: true}, {From: 15, Many: 1009}}},
	} {
		got, err := region.Add(l, c.a)
		told(t, "Add", l, c.a, got, err, c.want, api.OK)
	}
}

// P14.2, P14.3: eight areas and no more, counted in their one form.
func TestFull(t *testing.T) {
	for _, from := range []int{1, 500, 1007} {
		l := eight(from)
		m := of(l)
		if _, err := adds(t, l, m, api.Area{From: from + 17, Many: 1}); err != api.ErrFull && from < 1007 {
			t.Errorf("a ninth area: %d", err)
		}
		if from == 1007 {
			adds(t, l, m, api.Area{From: 1023, Many: 1})
		}
		for page := from - 1; page <= from+16; page++ {
			for _, write := range []bool{false, true} {
				for many := 1; many <= 3; many++ {
					adds(t, l, m, api.Area{From: page, Many: many, Write: write})
					cuts(t, l, m, page, many)
					sets(t, l, m, page, many, write)
				}
			}
		}
	}
	whole := []api.Area{{From: 0, Many: 1024}}
	got, err := region.Cut(whole, 0, 1024)
	told(t, "Cut", whole, api.Area{From: 0, Many: 1024}, got, err, nil, api.OK)
	for i := range 7 {
		if whole, err = cuts(t, whole, of(whole), 10+10*i, 3); err != api.OK {
			t.Fatal(err)
		}
	}
	if _, err = cuts(t, whole, of(whole), 100, 1); err != api.ErrFull || len(whole) != 8 {
		t.Errorf("Cut of %v: %d", whole, err)
	}
	if _, err = sets(t, whole, of(whole), 100, 1, true); err != api.ErrFull {
		t.Errorf("Set of %v: %d", whole, err)
	}
	if _, err = sets(t, whole, of(whole), 100, 1, false); err != api.OK {
		t.Errorf("Set of %v: %d", whole, err)
	}
	if _, err = cuts(t, whole, of(whole), 9, 1); err != api.OK {
		t.Errorf("Cut of %v: %d", whole, err)
	}
}

// P14.2, P14.3: which error goes ahead of which.
func TestOrder(t *testing.T) {
	bad := []api.Area{{From: 3, Many: 1}, {From: 4, Many: 1}}
	got, err := region.Add(bad, api.Area{From: 3, Many: 1})
	told(t, "Add", bad, api.Area{From: 3, Many: 1}, got, err, nil, api.ErrArg)
	got, err = region.Cut(bad, 5, 1)
	told(t, "Cut", bad, api.Area{From: 5, Many: 1}, got, err, nil, api.ErrArg)
	got, err = region.Set(bad, 5, 1, true)
	told(t, "Set", bad, api.Area{From: 5, Many: 1}, got, err, nil, api.ErrArg)

	nine := []api.Area{{From: 1009, Many: 15}}
	got, err = region.Add(nine, api.Area{From: 1010, Many: 15})
	told(t, "Add", nine, api.Area{From: 1010, Many: 15}, got, err, nil, api.ErrArg)
	got, err = region.Cut(nine, 1010, 15)
	told(t, "Cut", nine, api.Area{From: 1010, Many: 15}, got, err, nil, api.ErrArg)
	got, err = region.Set(nine, 1023, 2, true)
	told(t, "Set", nine, api.Area{From: 1023, Many: 2}, got, err, nil, api.ErrArg)

	l := append(eight(0)[:7], api.Area{From: 20, Many: 3})
	got, err = region.Add(l, api.Area{From: 19, Many: 5, Write: true})
	told(t, "Add", l, api.Area{From: 19, Many: 5}, got, err, nil, api.ErrThere)
	got, err = region.Add(l, api.Area{From: 24, Many: 1})
	told(t, "Add", l, api.Area{From: 24, Many: 1}, got, err, nil, api.ErrFull)
	got, err = region.Cut(l, 20, 4)
	told(t, "Cut", l, api.Area{From: 20, Many: 4}, got, err, nil, api.ErrNone)
	got, err = region.Cut(l, 21, 1)
	told(t, "Cut", l, api.Area{From: 21, Many: 1}, got, err, nil, api.ErrFull)
	got, err = region.Set(l, 19, 2, true)
	told(t, "Set", l, api.Area{From: 19, Many: 2}, got, err, nil, api.ErrNone)
	got, err = region.Set(l, 22, 1, true)
	told(t, "Set", l, api.Area{From: 22, Many: 1}, got, err, nil, api.ErrFull)
}

// P14.2, P14.3: pages that there are not, or none, whatever the areas.
func TestOff(t *testing.T) {
	for _, l := range [][]api.Area{nil, {}, {{From: 0, Many: 1024}}, {{From: 3, Many: 1}}, {{From: 1, Many: 1023, Write: true}}, eight(0)} {
		m := of(l)
		for _, n := range append(off, 0, 1, 3, 1023) {
			for _, k := range append(off, 0) {
				if k == 1024 && n == 0 {
					continue
				}
				for _, write := range []bool{false, true} {
					if _, err := adds(t, l, m, api.Area{From: n, Many: k, Write: write}); err != api.ErrArg {
						t.Fatalf("Add %d %d: %d", n, k, err)
					}
					if _, err := sets(t, l, m, n, k, write); err != api.ErrArg {
						t.Fatalf("Set %d %d: %d", n, k, err)
					}
				}
				if _, err := cuts(t, l, m, n, k); err != api.ErrArg {
					t.Fatalf("Cut %d %d: %d", n, k, err)
				}
			}
		}
	}
}

// What is handed in is not changed and not kept, spare room behind it included; an answer is new memory.
func TestNewMemory(t *testing.T) {
	for _, l := range [][]api.Area{nil, {{From: 3, Many: 4}}, {{From: 1, Many: 2}, {From: 3, Many: 4, Write: true}}, eight(0)[:6]} {
		for from := range 20 {
			for many := 1; many <= 3; many++ {
				for _, write := range []bool{false, true} {
					alone(t, l, func(l []api.Area) []api.Area {
						got, _ := region.Add(l, api.Area{From: from, Many: many, Write: write})
						return got
					})
					alone(t, l, func(l []api.Area) []api.Area {
						got, _ := region.Set(l, from, many, write)
						return got
					})
				}
				alone(t, l, func(l []api.Area) []api.Area {
					got, _ := region.Cut(l, from, many)
					return got
				})
			}
		}
		alone(t, l, func(l []api.Area) []api.Area {
			region.Check(l)
			region.Find(l, 3)
			region.Covers(l, 3, 2)
			region.Pages(l)
			return nil
		})
	}
	l := []api.Area{{From: 3, Many: 4}}
	one, _ := region.Set(l, 3, 4, false)
	two, _ := region.Set(l, 3, 4, false)
	one[0].From = 0
	if two[0] != l[0] || l[0] != (api.Area{From: 3, Many: 4}) {
		t.Errorf("answers share memory: %v %v", l, two)
	}
}

// P14.4: rows of steps, near each other and over all pages, each held against the model.
func TestSteps(t *testing.T) {
	r := random(14)
	for _, wide := range []int{12, 40, 1024} {
		for range 30 {
			at := r.below(1024 - wide + 1)
			var l []api.Area
			for range 100 {
				m := of(l)
				a := api.Area{From: at + r.below(wide), Many: 1 + r.below(1+wide/6), Write: r.below(2) == 1}
				var next []api.Area
				err := api.ErrNone
				switch r.below(5) {
				case 0, 1, 2:
					next, err = adds(t, l, m, a)
				case 3:
					next, err = sets(t, l, m, a.From, a.Many, a.Write)
				case 4:
					next, err = cuts(t, l, m, a.From, a.Many)
				}
				covers(t, l, m, a.From, a.Many)
				if err == api.OK {
					l = next
					same(t, l, of(l))
				}
			}
		}
	}
}

// P14.4: the same pages have the same form, by whatever way they came to be there.
func TestOneForm(t *testing.T) {
	r := random(41)
	for range 200 {
		pages := []int{3, 4, 5, 6, 7, 8, 9, 10}
		var l []api.Area
		for len(pages) > 0 {
			i := r.below(len(pages))
			var err api.Errno
			if l, err = region.Add(l, api.Area{From: pages[i], Many: 1, Write: r.below(2) == 1}); err != api.OK {
				t.Fatal(err)
			}
			pages = slices.Delete(pages, i, i+1)
		}
		l, err := region.Set(l, 3, 8, true)
		if want := (api.Area{From: 3, Many: 8, Write: true}); err != api.OK || len(l) != 1 || l[0] != want {
			t.Fatalf("%v %d", l, err)
		}
	}
}

// The chapter's examples.
func TestChapter(t *testing.T) {
	that, err := region.Add(nil, api.Area{From: 3, Many: 2, Write: true})
	told(t, "Add", nil, api.Area{}, that, err, []api.Area{{From: 3, Many: 2, Write: true}}, api.OK)
	got, err := region.Add(that, api.Area{From: 5, Many: 1, Write: true})
	told(t, "Add", that, api.Area{}, got, err, []api.Area{{From: 3, Many: 3, Write: true}}, api.OK)
	got, err = region.Set(got, 4, 1, false)
	told(t, "Set", that, api.Area{}, got, err, []api.Area{{From: 3, Many: 1, Write: true}, {From: 4, Many: 1}, {From: 5, Many: 1, Write: true}}, api.OK)
	got, err = region.Cut(that, 2, 2)
	told(t, "Cut", that, api.Area{}, got, err, nil, api.ErrNone)
}
