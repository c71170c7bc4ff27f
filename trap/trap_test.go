package trap_test

import (
	"math"
	"slices"
	"testing"

	"priory/api"
	"priory/mem"
	"priory/trap"
)

// off are numbers that are no frame's and no slot's, whatever the memory.
var off = []int{math.MinInt, math.MinInt + 1, -1 << 32, -1 << 31, -1024, -10, -3, -2, -1, 1024, 1025, 1 << 16, math.MaxInt32, 1 << 32, 1<<32 + 1, math.MaxInt / 10, math.MaxInt/10 + 1, math.MaxInt - 1, math.MaxInt}

// frames are trap's frames, and the words that the document says of each.
var frames = []struct {
	t api.Trap
	l []api.Word
}{
	{api.Trap{}, []api.Word{0, 0, 0, 0, 0, 0, 0, 0, 0, 0}},
	{api.Trap{R: [8]api.Word{1, 2, 3, 4, 5, 6, 7, 8}, Cause: 9, Arg: 10}, []api.Word{1, 2, 3, 4, 5, 6, 7, 8, 9, 10}},
	{api.Trap{R: [8]api.Word{0: 5}, Cause: 1}, []api.Word{5, 0, 0, 0, 0, 0, 0, 0, 1, 0}},
	{api.Trap{R: [8]api.Word{7: 5}, Arg: 1}, []api.Word{0, 0, 0, 0, 0, 0, 0, 5, 0, 1}},
	{api.Trap{Cause: math.MaxUint32}, []api.Word{8: math.MaxUint32, 9: 0}},
	{api.Trap{Arg: math.MaxUint32}, []api.Word{9: math.MaxUint32}},
	{api.Trap{R: [8]api.Word{math.MaxUint32, 1 << 31, 0, 0, 0, 0, 1<<31 - 1, math.MaxUint32}, Cause: 1 << 31, Arg: 1 << 31},
		[]api.Word{math.MaxUint32, 1 << 31, 0, 0, 0, 0, 1<<31 - 1, math.MaxUint32, 1 << 31, 1 << 31}},
}

// numbered is a trap's frame whose words are all unlike, and unlike those of another number.
func numbered(n int) api.Trap {
	var t api.Trap
	for i := range t.R {
		t.R[i] = api.Word(16*n+i+1) * 0x9e3779b1
	}
	t.Cause, t.Arg = api.Word(16*n+9)*0x9e3779b1, api.Word(16*n+10)*0x9e3779b1
	return t
}

// model is a memory as the document tells it: a word of each place.
type model [][32]api.Word

// save is what the document says of one: ten words from the place 10 s on.
func (m model) save(frame, slot int, t api.Trap) {
	copy(m[frame][10*slot:], t.R[:])
	m[frame][10*slot+8], m[frame][10*slot+9] = t.Cause, t.Arg
}

// load is what the slot's words are.
func (m model) load(frame, slot int) api.Trap {
	t := api.Trap{Cause: m[frame][10*slot+8], Arg: m[frame][10*slot+9]}
	copy(t.R[:], m[frame][10*slot:])
	return t
}

// filled is a memory all of whose words differ, and are not 0, and its model.
func filled(t *testing.T, frames int) (*mem.Mem, model) {
	t.Helper()
	m, err := mem.New(frames)
	if err != api.OK {
		t.Fatalf("New(%d): %d", frames, err)
	}
	want := make(model, frames)
	for f := range want {
		for p := range want[f] {
			want[f][p] = api.Word(32*f+p+1) * 0x85ebca6b
			if err := m.Write(f, p, want[f][p]); err != api.OK {
				t.Fatalf("Write(%d, %d): %d", f, p, err)
			}
		}
	}
	return m, want
}

// same holds a whole memory against its model, by its words and by what is loaded.
func same(t *testing.T, m *mem.Mem, want model) {
	t.Helper()
	for f := range want {
		for p := range want[f] {
			if w, err := m.Read(f, p); w != want[f][p] || err != api.OK {
				t.Fatalf("the word %d, %d is %#x (%d), want %#x", f, p, w, err, want[f][p])
			}
		}
		for s := range 3 {
			if got, err := trap.Load(m, f, s); got != want.load(f, s) || err != api.OK {
				t.Fatalf("Load(%d, %d): %v %d, want %v", f, s, got, err, want.load(f, s))
			}
		}
	}
}

// refused asks Save and Load for a slot that there is not: want is the error.
func refused(t *testing.T, m *mem.Mem, frame, slot int, want api.Errno) {
	t.Helper()
	if err := trap.Save(m, frame, slot, numbered(1)); err != want {
		t.Errorf("Save(%d, %d): %d, want %d", frame, slot, err, want)
	}
	if got, err := trap.Load(m, frame, slot); got != (api.Trap{}) || err != want {
		t.Errorf("Load(%d, %d): %v %d, want %d", frame, slot, got, err, want)
	}
}

func TestWords(t *testing.T) { // P4.1
	for _, x := range frames {
		if l := trap.Words(x.t); !slices.Equal(l, x.l) {
			t.Errorf("Words(%v): %v, want %v", x.t, l, x.l)
		}
	}
}

func TestWordsAreNewMemory(t *testing.T) { // P4.1
	x := frames[1]
	first, second := trap.Words(x.t), trap.Words(x.t)
	for i := range first {
		first[i] = 77
	}
	_ = append(first, 78)
	if !slices.Equal(second, x.l) {
		t.Errorf("two answers of Words share memory: %v", second)
	}
	if l := trap.Words(x.t); !slices.Equal(l, x.l) {
		t.Errorf("an answer of Words hangs on an earlier one: %v", l)
	}
}

func TestOf(t *testing.T) { // P4.1
	for _, x := range frames {
		if got, err := trap.Of(x.l); got != x.t || err != api.OK {
			t.Errorf("Of(%v): %v %d, want %v", x.l, got, err, x.t)
		}
	}
}

func TestOfAnyLength(t *testing.T) { // P4.1
	if got, err := trap.Of(nil); got != (api.Trap{}) || err != api.ErrArg {
		t.Errorf("Of(nil): %v %d, want ErrArg", got, err)
	}
	room := make([]api.Word, 100)
	for i := range room {
		room[i] = api.Word(i + 1)
	}
	for n := range room {
		// Spare room behind the words does not make up for those that are missing.
		for _, l := range [][]api.Word{room[:n], slices.Clone(room[:n:n])} {
			got, err := trap.Of(l)
			if n == 10 && (got != frames[1].t || err != api.OK) {
				t.Errorf("Of ten words: %v %d", got, err)
			}
			if n != 10 && (got != (api.Trap{}) || err != api.ErrArg) {
				t.Errorf("Of %d words: %v %d, want ErrArg", n, got, err)
			}
		}
	}
}

func TestOfLeavesItsWords(t *testing.T) { // P4.1
	room := slices.Clone(frames[1].l)
	room = append(room, 11, 12, 13)
	want := slices.Clone(room)
	got, err := trap.Of(room[:10])
	if !slices.Equal(room, want) {
		t.Errorf("Of changed its words: %v", room)
	}
	for i := range room {
		room[i] = 77
	}
	if got != frames[1].t || err != api.OK {
		t.Errorf("Of kept its words: %v %d", got, err)
	}
}

func TestSave(t *testing.T) { // P4.2
	for _, many := range []int{1, 2, 5, 1024} {
		for _, f := range []int{0, many / 2, many - 1} {
			m, want := filled(t, many)
			for i, s := range []int{1, 0, 2, 2, 1, 0} {
				x := numbered(i)
				if err := trap.Save(m, f, s, x); err != api.OK {
					t.Errorf("Save(%d, %d): %d", f, s, err)
				}
				want.save(f, s, x)
				same(t, m, want)
			}
		}
	}
}

func TestSaveOfEachFrame(t *testing.T) { // P4.2
	for s := range 3 {
		for _, x := range frames {
			m, want := filled(t, 3)
			if err := trap.Save(m, 1, s, x.t); err != api.OK {
				t.Errorf("Save(1, %d, %v): %d", s, x.t, err)
			}
			copy(want[1][10*s:], x.l)
			same(t, m, want)
		}
	}
}

func TestLoadOfWordsThatWereWritten(t *testing.T) { // P4.2
	m, want := filled(t, 3)
	for f := range want {
		for p := range want[f] {
			want[f][p] = ^want[f][p]
			if err := m.Write(f, p, want[f][p]); err != api.OK {
				t.Fatalf("Write(%d, %d): %d", f, p, err)
			}
			same(t, m, want)
		}
	}
	// A memory's words are all 0 at first, and so is what is loaded.
	empty, _ := mem.New(2)
	same(t, empty, make(model, 2))
}

func TestSlotsThatThereAreNot(t *testing.T) { // P4.2
	for _, many := range []int{1, 2, 1024} {
		m, want := filled(t, many)
		for _, s := range append([]int{3, 4, 10, 20, 30, 32}, off...) {
			for _, f := range []int{0, many - 1, many, -1} {
				refused(t, m, f, s, api.ErrArg)
			}
		}
		for _, f := range append([]int{many, many + 1}, off...) {
			if f < 0 || f >= many {
				for s := range 3 {
					refused(t, m, f, s, api.ErrArg)
				}
			}
		}
		same(t, m, want)
	}
}

func TestNoMemory(t *testing.T) { // P4.2
	left, _ := mem.New(0)
	for _, m := range []*mem.Mem{nil, left, {}, new(mem.Mem)} {
		// ErrNil goes ahead of ErrArg.
		for _, n := range append([]int{0, 1, 2, 3, 4}, off...) {
			refused(t, m, n, 0, api.ErrNil)
			refused(t, m, 0, n, api.ErrNil)
			refused(t, m, n, n, api.ErrNil)
		}
	}
}

func TestWordsComeBack(t *testing.T) { // P4.3
	for n := range 1000 {
		x := numbered(n)
		l := trap.Words(x)
		if got, err := trap.Of(l); got != x || err != api.OK {
			t.Fatalf("Of of Words(%v): %v %d", x, got, err)
		}
	}
	// Each word alone, bit by bit.
	for i := range 10 {
		for bit := range 32 {
			l := make([]api.Word, 10)
			l[i] = 1 << bit
			x, err := trap.Of(l)
			if back := trap.Words(x); !slices.Equal(back, l) || err != api.OK {
				t.Fatalf("Words of Of(%v): %v %d", l, back, err)
			}
		}
	}
}

func TestWhatIsSavedStays(t *testing.T) { // P4.3
	const many = 4
	m, want := filled(t, many)
	state := uint32(1)
	next := func(below int) int {
		state = state*1664525 + 1013904223
		return int(state>>8) % below
	}
	saved := 0
	for step := range 2000 {
		// Frames and slots that there are not come in between: these change nothing.
		f, s, x := next(many+2)-1, next(5)-1, numbered(step)
		if f < 0 || f >= many || s < 0 || s >= 3 {
			refused(t, m, f, s, api.ErrArg)
		} else if err := trap.Save(m, f, s, x); err != api.OK {
			t.Fatalf("step %d, Save(%d, %d): %d", step, f, s, err)
		} else {
			want.save(f, s, x)
			saved++
		}
		same(t, m, want)
	}
	if saved < 500 {
		t.Errorf("%d were saved", saved)
	}
}

func TestExamples(t *testing.T) {
	m, err := mem.New(2)
	if err != api.OK {
		t.Fatal(err)
	}
	x := api.Trap{R: [8]api.Word{0: 5}, Cause: 1}
	if err := trap.Save(m, 1, 2, x); err != api.OK {
		t.Errorf("Save(1, 2): %d", err)
	}
	same(t, m, model{{}, {20: 5, 28: 1}})
	refused(t, m, 1, 3, api.ErrArg)
}
