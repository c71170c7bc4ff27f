package mem_test

import (
	"math"
	"slices"
	"testing"

	"priory/api"
	"priory/mem"
)

// off are numbers that are no frame's and no place's, whatever the memory.
var off = []int{math.MinInt, math.MinInt + 1, -1 << 32, -1 << 31, -1024, -33, -32, -2, -1, 1024, 1025, 1 << 16, math.MaxInt32, 1 << 32, 1<<32 + 1, math.MaxInt - 1, math.MaxInt}

// model is a memory as the document tells it: a word of each place.
type model [][32]api.Word

// made is a memory that New answers, which must do so.
func made(t *testing.T, frames int) *mem.Mem {
	t.Helper()
	m, err := mem.New(frames)
	if m == nil || err != api.OK {
		t.Fatalf("New(%d): %v %d", frames, m, err)
	}
	return m
}

// filled is a memory all of whose words differ, and are not 0, and its model.
func filled(t *testing.T, frames int) (*mem.Mem, model) {
	t.Helper()
	m, want := made(t, frames), make(model, frames)
	for f := range frames {
		for p := range 32 {
			want[f][p] = api.Word(32*f+p+1) * 0x9e3779b1
			if err := m.Write(f, p, want[f][p]); err != api.OK {
				t.Fatalf("Write(%d, %d): %d", f, p, err)
			}
		}
	}
	return m, want
}

// same holds a whole memory against its model, by Read and by Page.
func same(t *testing.T, m *mem.Mem, want model) {
	t.Helper()
	if m.Frames() != len(want) {
		t.Fatalf("Frames: %d, want %d", m.Frames(), len(want))
	}
	for f := range want {
		for p := range want[f] {
			if w, err := m.Read(f, p); w != want[f][p] || err != api.OK {
				t.Fatalf("Read(%d, %d): %#x %d, want %#x", f, p, w, err, want[f][p])
			}
		}
		if l, err := m.Page(f); !slices.Equal(l, want[f][:]) || err != api.OK {
			t.Fatalf("Page(%d): %v %d, want %v", f, l, err, want[f])
		}
	}
}

// refused asks all that has a frame for one that there is not: want is the error.
func refused(t *testing.T, m *mem.Mem, frame, place int, want api.Errno) {
	t.Helper()
	if w, err := m.Read(frame, place); w != 0 || err != want {
		t.Errorf("Read(%d, %d): %#x %d, want %d", frame, place, w, err, want)
	}
	if err := m.Write(frame, place, 7); err != want {
		t.Errorf("Write(%d, %d): %d, want %d", frame, place, err, want)
	}
}

// refusedWhole is refused, of calls on a frame as a whole.
func refusedWhole(t *testing.T, m *mem.Mem, frame int, want api.Errno) {
	t.Helper()
	if err := m.Zero(frame); err != want {
		t.Errorf("Zero(%d): %d, want %d", frame, err, want)
	}
	for _, x := range [][2]int{{frame, 0}, {0, frame}, {frame, frame}} {
		if err := m.Copy(x[0], x[1]); err != want {
			t.Errorf("Copy(%d, %d): %d, want %d", x[0], x[1], err, want)
		}
	}
	if l, err := m.Page(frame); len(l) != 0 || err != want {
		t.Errorf("Page(%d): %v %d, want %d", frame, l, err, want)
	}
}

func TestNew(t *testing.T) { // P2.1
	for frames := 1; frames <= 1024; frames++ {
		if m := made(t, frames); m.Frames() != frames {
			t.Fatalf("New(%d), Frames: %d", frames, m.Frames())
		}
	}
	for _, frames := range []int{1, 2, 31, 32, 33, 1023, 1024} {
		same(t, made(t, frames), make(model, frames))
	}
}

func TestNewThatMayNotBe(t *testing.T) { // P2.1
	for _, frames := range append([]int{0, 2048, 4096}, off...) {
		if frames == 1024 {
			continue
		}
		if m, err := mem.New(frames); m != nil || err != api.ErrArg {
			t.Errorf("New(%d): %v %d, want ErrArg", frames, m, err)
		}
	}
}

func TestNoMemory(t *testing.T) { // P2.1, P2.2, P2.3
	left, _ := mem.New(0)
	for _, m := range []*mem.Mem{nil, left, {}, new(mem.Mem)} {
		if n := m.Frames(); n != 0 {
			t.Errorf("Frames of none: %d", n)
		}
		// ErrNil goes ahead of ErrArg.
		for _, n := range append([]int{0, 1, 31, 32}, off...) {
			refused(t, m, n, 0, api.ErrNil)
			refused(t, m, 0, n, api.ErrNil)
			refusedWhole(t, m, n, api.ErrNil)
		}
	}
}

func TestReadAndWrite(t *testing.T) { // P2.2
	for _, frames := range []int{1, 2, 33, 1024} {
		m, want := filled(t, frames)
		same(t, m, want)
	}
	m := made(t, 1)
	for _, w := range []api.Word{1, 0, 1 << 31, 0x7fffffff, math.MaxUint32} {
		if err := m.Write(0, 31, w); err != api.OK {
			t.Errorf("Write(0, 31, %#x): %d", w, err)
		}
		same(t, m, model{{31: w}})
	}
}

func TestPlacesThatThereAreNot(t *testing.T) { // P2.2
	for _, frames := range []int{1, 2, 1024} {
		m, want := filled(t, frames)
		for _, n := range append([]int{frames, frames + 1}, off...) {
			if n < 0 || n >= frames {
				refused(t, m, n, 0, api.ErrArg)
				refused(t, m, n, 31, api.ErrArg)
			}
		}
		for _, n := range append([]int{32, 33, 63, 64}, off...) {
			refused(t, m, 0, n, api.ErrArg)
			refused(t, m, frames-1, n, api.ErrArg)
			refused(t, m, frames, n, api.ErrArg)
			refused(t, m, -1, n, api.ErrArg)
		}
		same(t, m, want)
	}
}

func TestZero(t *testing.T) { // P2.3
	m, want := filled(t, 5)
	for _, f := range []int{4, 0, 2, 2} {
		if err := m.Zero(f); err != api.OK {
			t.Errorf("Zero(%d): %d", f, err)
		}
		want[f] = [32]api.Word{}
		same(t, m, want)
	}
}

func TestCopy(t *testing.T) { // P2.3
	for to := range 4 {
		for from := range 4 {
			m, want := filled(t, 4)
			if err := m.Copy(to, from); err != api.OK {
				t.Errorf("Copy(%d, %d): %d", to, from, err)
			}
			want[to] = want[from]
			same(t, m, want)
			// From now on each goes its own way.
			for p, w := range []api.Word{5, 6} {
				f := []int{from, to}[p]
				if err := m.Write(f, p, w); err != api.OK {
					t.Errorf("Write(%d, %d): %d", f, p, err)
				}
				want[f][p] = w
				same(t, m, want)
			}
		}
	}
}

func TestPageIsNewMemory(t *testing.T) { // P2.3
	m, want := filled(t, 3)
	first, err := m.Page(1)
	if err != api.OK {
		t.Fatalf("Page(1): %d", err)
	}
	second, _ := m.Page(1)
	for p := range first {
		first[p] = 1
	}
	_ = append(first, 1, 2, 3)
	same(t, m, want)
	if !slices.Equal(second, want[1][:]) {
		t.Errorf("two answers of Page share memory: %v", second)
	}
	if err := m.Zero(1); err != api.OK {
		t.Errorf("Zero(1): %d", err)
	}
	if !slices.Equal(second, want[1][:]) {
		t.Errorf("an answer of Page changes with the memory: %v", second)
	}
}

func TestFramesThatThereAreNot(t *testing.T) { // P2.3
	for _, frames := range []int{1, 2, 1024} {
		m, want := filled(t, frames)
		for _, n := range append([]int{frames, frames + 1}, off...) {
			if n < 0 || n >= frames {
				refusedWhole(t, m, n, api.ErrArg)
			}
		}
		same(t, m, want)
	}
}

func TestWhatIsWrittenStays(t *testing.T) { // P2.4
	const frames = 6
	m, want := made(t, frames), make(model, frames)
	state := uint32(1)
	next := func(below int) int {
		state = state*1664525 + 1013904223
		return int(state>>8) % below
	}
	for step := range 4000 {
		// Numbers that there are not come in between: these change nothing.
		a, b, p, w := next(frames+2)-1, next(frames+2)-1, next(34)-1, api.Word(next(1<<24))+1
		isA, isB, isP := a >= 0 && a < frames, b >= 0 && b < frames, p >= 0 && p < 32
		var ok bool
		var err api.Errno
		switch next(8) {
		case 0:
			if ok, err = isA, m.Zero(a); ok {
				want[a] = [32]api.Word{}
			}
		case 1, 2:
			if ok, err = isA && isB, m.Copy(a, b); ok {
				want[a] = want[b]
			}
		default:
			if ok, err = isA && isP, m.Write(a, p, w); ok {
				want[a][p] = w
			}
		}
		if ok != (err == api.OK) || !ok && err != api.ErrArg {
			t.Fatalf("step %d, on %d %d %d: %d", step, a, b, p, err)
		}
		same(t, m, want)
	}
}

func TestMemoriesAreApart(t *testing.T) { // P2.4
	a, wantA := filled(t, 2)
	b := made(t, 2)
	same(t, b, make(model, 2))
	if err := b.Write(1, 3, 9); err != api.OK {
		t.Errorf("Write(1, 3): %d", err)
	}
	same(t, a, wantA)
	if err := a.Zero(1); err != api.OK {
		t.Errorf("Zero(1): %d", err)
	}
	same(t, b, model{{}, {3: 9}})
}

func TestExamples(t *testing.T) {
	m := made(t, 2)
	read := func(frame, place int, want api.Word) {
		t.Helper()
		if w, err := m.Read(frame, place); w != want || err != api.OK {
			t.Errorf("Read(%d, %d): %d %d, want %d", frame, place, w, err, want)
		}
	}
	if err := m.Write(1, 31, 7); err != api.OK {
		t.Errorf("Write(1, 31, 7): %d", err)
	}
	read(1, 31, 7)
	read(0, 31, 0)
	refused(t, m, 2, 0, api.ErrArg)
	refused(t, m, 0, 32, api.ErrArg)
	if err := m.Write(-1, 0, 1); err != api.ErrArg {
		t.Errorf("Write(-1, 0, 1): %d", err)
	}
	if err := m.Copy(0, 1); err != api.OK {
		t.Errorf("Copy(0, 1): %d", err)
	}
	read(0, 31, 7)
}
