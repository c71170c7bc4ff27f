package call_test

import (
	"math"
	"testing"

	"priory/api"
	"priory/call"
)

// regs are all registers.
type regs = [8]api.Word

// words are words near the edges, and such of which the lower bits alone are 0, 1 or a call's number.
var words = []api.Word{0, 1, 2, 3, 12, 13, 255, 256, 257, 1 << 15, 1 << 16, 1<<16 + 1, 1<<31 - 1, 1 << 31, 1<<31 + 1, math.MaxUint32 - 1, math.MaxUint32}

// offWords are no words: below 0, or above the highest one, among them such of which the lower bits are a word.
var offWords = []int{math.MinInt, math.MinInt + 1, -1 << 32, -1<<32 + 1, -1<<31 - 1, -1 << 31, -65536, -256, -2, -1, 1 << 32, 1<<32 + 1, 1<<32 + 5, 1<<33 - 1, 1 << 33, 1 << 40, math.MaxInt - 1, math.MaxInt}

// offCalls are numbers of no call, as words.
var offCalls = []api.Word{13, 14, 15, 16, 17, 18, 19, 20, 21, 28, 29, 31, 32, 64, 127, 128, 131, 255, 256, 257, 259, 261, 267, 1 << 16, 1<<16 + 3, 1<<31 - 1, 1 << 31, 1<<31 + 3, 1<<31 + 12, math.MaxUint32 - 12, math.MaxUint32 - 1, math.MaxUint32}

// read is the document's table, call by call, and its errors.
func read(r regs) (api.Sys, api.Errno) {
	s := api.Sys{No: int(r[0])}
	switch r[0] {
	case 0, 1, 2, 9:
	case 3, 5:
		if r[3] != 0 && r[3] != 1 {
			return api.Sys{}, api.ErrArg
		}
		s.A, s.B, s.W = int(r[1]), int(r[2]), r[3] == 1
	case 4:
		s.A, s.B = int(r[1]), int(r[2])
	case 6:
		s.A = int(r[1])
	case 7, 10:
		s.A, s.C = int(r[1]), r[2]
	case 8:
		s.C = r[1]
	case 11, 12:
		s.A, s.B, s.C = int(r[1]), int(r[3]), r[2]
	default:
		return api.Sys{}, api.ErrCall
	}
	return s, api.OK
}

// isWord: does a number fit into a register?
func isWord(n int) bool { return n >= 0 && n <= 1<<32-1 }

// put is the document's words on Put, call by call.
func put(s api.Sys) (regs, api.Errno) {
	if s.No < 0 || s.No > 12 {
		return regs{}, api.ErrCall
	}
	if !isWord(s.A) || !isWord(s.B) {
		return regs{}, api.ErrArg
	}
	no, a, b, c, w := api.Word(s.No), api.Word(s.A), api.Word(s.B), s.C, api.Word(0)
	if s.W {
		w = 1
	}
	noA, noB, noC, noW := s.A == 0, s.B == 0, s.C == 0, !s.W
	switch s.No {
	case 0, 1, 2, 9:
		if noA && noB && noC && noW {
			return regs{no}, api.OK
		}
	case 3, 5:
		if noC {
			return regs{no, a, b, w}, api.OK
		}
	case 4:
		if noC && noW {
			return regs{no, a, b}, api.OK
		}
	case 6:
		if noB && noC && noW {
			return regs{no, a}, api.OK
		}
	case 7, 10:
		if noB && noW {
			return regs{no, a, c}, api.OK
		}
	case 8:
		if noA && noB && noW {
			return regs{no, c}, api.OK
		}
	case 11, 12:
		if noW {
			return regs{no, a, c, b}, api.OK
		}
	}
	return regs{}, api.ErrArg
}

// reads holds Read against the model.
func reads(t *testing.T, r regs) {
	t.Helper()
	was := r
	want, wantErr := read(r)
	if got, err := call.Read(r); got != want || err != wantErr {
		t.Fatalf("Read(%v): %+v %d, want %+v %d", r, got, err, want, wantErr)
	}
	if r != was {
		t.Fatalf("Read changed what was handed in: %v, was %v", r, was)
	}
}

// puts holds Put against the model, and what it answers against Read.
func puts(t *testing.T, s api.Sys) {
	t.Helper()
	want, wantErr := put(s)
	got, err := call.Put(s)
	if got != want || err != wantErr {
		t.Fatalf("Put(%+v): %v %d, want %v %d", s, got, err, want, wantErr)
	}
	if err != api.OK {
		return
	}
	if back, err := call.Read(got); back != s || err != api.OK {
		t.Fatalf("Read of Put(%+v): %+v %d", s, back, err)
	}
}

// threes are all rows of three of a list.
func threes[T any](l []T, do func(a, b, c T)) {
	for _, a := range l {
		for _, b := range l {
			for _, c := range l {
				do(a, b, c)
			}
		}
	}
}

// table is the document's table by hand: registers, and the call that they are.
var table = []struct {
	r regs
	s api.Sys
}{
	{regs{0}, api.Sys{No: api.SysYield}},
	{regs{1}, api.Sys{No: api.SysPid}},
	{regs{2}, api.Sys{No: api.SysLeft}},
	{regs{3, 5, 2, 1}, api.Sys{No: api.SysGrow, A: 5, B: 2, W: true}},
	{regs{3, 5, 2, 0}, api.Sys{No: api.SysGrow, A: 5, B: 2}},
	{regs{4, 5, 2}, api.Sys{No: api.SysShrink, A: 5, B: 2}},
	{regs{5, 5, 2, 1}, api.Sys{No: api.SysProtect, A: 5, B: 2, W: true}},
	{regs{5, 5, 2, 0}, api.Sys{No: api.SysProtect, A: 5, B: 2}},
	{regs{6, 4}, api.Sys{No: api.SysFork, A: 4}},
	{regs{7, 4, 9}, api.Sys{No: api.SysSpawn, A: 4, C: 9}},
	{regs{8, 7}, api.Sys{No: api.SysExit, C: 7}},
	{regs{9}, api.Sys{No: api.SysWait}},
	{regs{10, 2, 7}, api.Sys{No: api.SysKill, A: 2, C: 7}},
	{regs{11, 0, 64, 3}, api.Sys{No: api.SysSend, C: 64, B: 3}},
	{regs{11, 15, 64, 8}, api.Sys{No: api.SysSend, A: 15, C: 64, B: 8}},
	{regs{12, 1, 130, 2}, api.Sys{No: api.SysRecv, A: 1, C: 130, B: 2}},
	{regs{3, math.MaxUint32, math.MaxUint32, 1}, api.Sys{No: 3, A: 1<<32 - 1, B: 1<<32 - 1, W: true}},
	{regs{7, 1 << 31, 1 << 31}, api.Sys{No: 7, A: 1 << 31, C: 1 << 31}},
	{regs{12, math.MaxUint32, math.MaxUint32, math.MaxUint32}, api.Sys{No: 12, A: 1<<32 - 1, B: 1<<32 - 1, C: math.MaxUint32}},
}

// P21.1, P21.3, P21.4: the document's examples, and a call of each row of its table.
func TestTable(t *testing.T) {
	for _, x := range table {
		if s, err := call.Read(x.r); s != x.s || err != api.OK {
			t.Errorf("Read(%v): %+v %d, want %+v", x.r, s, err, x.s)
		}
		if r, err := call.Put(x.s); r != x.r || err != api.OK {
			t.Errorf("Put(%+v): %v %d, want %v", x.s, r, err, x.r)
		}
	}
	if s, err := call.Read(regs{3, 5, 2, 2}); s != (api.Sys{}) || err != api.ErrArg {
		t.Errorf("Read of a W that is 2: %+v %d, want ErrArg", s, err)
	}
	if s, err := call.Read(regs{13}); s != (api.Sys{}) || err != api.ErrCall {
		t.Errorf("Read of the call 13: %+v %d, want ErrCall", s, err)
	}
}

// P21.1: all calls, with all that may stand in the registers that they take.
func TestRead(t *testing.T) {
	for no := range api.Word(13) {
		threes(words, func(a, b, c api.Word) {
			reads(t, regs{no, a, b, c})
			reads(t, regs{no, a, b, c, c, b, a, no})
		})
	}
}

// P21.1: numbers of no call, whatever the rest, a W that may not be among it.
func TestReadNoCall(t *testing.T) {
	refused := func(r regs) {
		if s, err := call.Read(r); s != (api.Sys{}) || err != api.ErrCall {
			t.Fatalf("Read(%v): %+v %d, want ErrCall", r, s, err)
		}
	}
	for _, no := range offCalls {
		threes(words, func(a, b, c api.Word) { refused(regs{no, a, b, c, a, b, c, a}) })
	}
	for no := api.Word(13); no < 1<<17; no++ {
		refused(regs{no})
		refused(regs{no, 5, 2, 1})
	}
}

// P21.1: only Grow and Protect ask whether R3 is 0 or 1.
func TestReadW(t *testing.T) {
	for no := range api.Word(13) {
		for w := range api.Word(1 << 12) {
			reads(t, regs{no, 5, 2, w})
		}
		for low := range api.Word(2) {
			for b := 1; b < 32; b++ {
				r := regs{no, 5, 2, 1<<b + low}
				reads(t, r)
				_, err := call.Read(r)
				if asks := no == 3 || no == 5; asks != (err == api.ErrArg) {
					t.Errorf("Read(%v): %d", r, err)
				}
			}
		}
	}
}

// asked are the registers that the document's table names, by a call's number.
var asked = [13][]int{
	3: {1, 2, 3}, 4: {1, 2}, 5: {1, 2, 3}, 6: {1}, 7: {1, 2}, 8: {1}, 10: {1, 2}, 11: {1, 2, 3}, 12: {1, 2, 3},
}

// P21.4: a call hangs on the registers of the table, and on no other one.
func TestReadAsksForItsRegisters(t *testing.T) {
	for no, l := range asked {
		isAsked := [8]bool{0: true}
		for _, i := range l {
			isAsked[i] = true
		}
		begin := regs{api.Word(no)}
		was, _ := call.Read(begin)
		for i := range begin {
			for _, w := range words {
				r := begin
				r[i] = w
				s, err := call.Read(r)
				if !isAsked[i] && (s != was || err != api.OK) {
					t.Errorf("Read(%v): %+v %d, though it does not ask for R%d", r, s, err, i)
				}
				if isAsked[i] && w != begin[i] && s == was && err == api.OK {
					t.Errorf("Read(%v): %+v, as with R%d 0", r, s, i)
				}
			}
		}
	}
}

// P21.2: each error, and all words near the edges, over registers that all differ.
func TestTold(t *testing.T) {
	r := regs{0x10, 0x21, 0x32, 0x43, 0x54, 0x65, 0x76, 0x87}
	was := r
	for e := api.OK; e <= api.ErrAgain; e++ {
		for _, v := range words {
			for _, w := range words {
				want := regs{api.Word(e), v, w, 0x43, 0x54, 0x65, 0x76, 0x87}
				if got := call.Told(r, e, v, w); got != want {
					t.Fatalf("Told(%v, %d, %d, %d): %v, want %v", r, e, v, w, got, want)
				}
			}
		}
	}
	if r != was {
		t.Errorf("Told changed what was handed in: %v, was %v", r, was)
	}
}

// P21.2: the registers that were there are kept, each one, whatever they are.
func TestToldKeeps(t *testing.T) {
	for i := range 8 {
		for _, w := range words {
			var r regs
			r[i] = w
			want := r
			want[0], want[1], want[2] = 7, 8, 9
			if got := call.Told(r, api.ErrFault, 8, 9); got != want {
				t.Errorf("Told(%v, ErrFault, 8, 9): %v, want %v", r, got, want)
			}
		}
	}
}

// P21.2: the numbers of errors are the document's.
func TestToldNumbers(t *testing.T) {
	errors := []api.Errno{api.OK, api.ErrNil, api.ErrArg, api.ErrFull, api.ErrNone, api.ErrThere, api.ErrForm, api.ErrFault, api.ErrPerm, api.ErrState, api.ErrCall, api.ErrIdle, api.ErrAgain}
	for n, e := range errors {
		if got := call.Told(regs{}, e, 0, 0); got != (regs{api.Word(n)}) {
			t.Errorf("Told of the error %d: %v", n, got)
		}
	}
}

// P21.3, P21.4: all calls, with all fields near the edges, set where they are taken and where they are not.
func TestPut(t *testing.T) {
	for no := range 13 {
		threes(words, func(a, b, c api.Word) {
			for _, w := range []bool{false, true} {
				puts(t, api.Sys{No: no, A: int(a), B: int(b), C: c, W: w})
			}
		})
	}
}

// P21.3: one field alone, of each call, is refused just if the call does not take it.
func TestPutTakes(t *testing.T) {
	const a, b, c, w = 1, 2, 4, 8
	takes := [13]int{3: a + b + w, 4: a + b, 5: a + b + w, 6: a, 7: a + c, 8: c, 10: a + c, 11: a + b + c, 12: a + b + c}
	for no, its := range takes {
		for set := range 16 {
			s := api.Sys{No: no, W: set&w != 0}
			if set&a != 0 {
				s.A = 1
			}
			if set&b != 0 {
				s.B = 1 << 31
			}
			if set&c != 0 {
				s.C = math.MaxUint32
			}
			r, err := call.Put(s)
			if may := set&^its == 0; may != (err == api.OK) {
				t.Errorf("Put(%+v): %d", s, err)
			}
			if err != api.OK && (r != regs{} || err != api.ErrArg) {
				t.Errorf("Put(%+v): %v %d, want ErrArg", s, r, err)
			}
		}
	}
}

// P21.3: numbers that are no words, in fields that the call takes and in such as it does not.
func TestPutNoWords(t *testing.T) {
	for no := range 13 {
		for _, n := range offWords {
			for _, m := range append([]int{0, 1, 5, 1<<32 - 1}, offWords...) {
				for _, s := range []api.Sys{{No: no, A: n, B: m}, {No: no, A: m, B: n}, {No: no, A: n, B: m, C: 1, W: true}} {
					if r, err := call.Put(s); r != (regs{}) || err != api.ErrArg {
						t.Fatalf("Put(%+v): %v %d, want ErrArg", s, r, err)
					}
				}
			}
		}
	}
}

// P21.3: numbers of no call, whatever the rest, fields that may not be among it.
func TestPutNoCall(t *testing.T) {
	numbers := append([]int{-3, -12, -13, -1<<32 + 3, 1<<32 + 12, 1<<32 + 3}, offWords...)
	for _, no := range offCalls {
		numbers = append(numbers, int(no))
	}
	for _, no := range numbers {
		for _, a := range []int{0, 5, -1, 1 << 32, math.MinInt, math.MaxInt} {
			for _, s := range []api.Sys{{No: no, A: a}, {No: no, B: a}, {No: no, A: a, B: a, C: 7, W: true}} {
				if r, err := call.Put(s); r != (regs{}) || err != api.ErrCall {
					t.Fatalf("Put(%+v): %v %d, want ErrCall", s, r, err)
				}
			}
		}
	}
}

// P21.3, P21.4: what was read is put as it stood, but for registers that are not asked for, which are 0.
func TestPutOfRead(t *testing.T) {
	for no, l := range asked {
		threes(words, func(a, b, c api.Word) {
			r := regs{api.Word(no), a, b, c, 4, 5, 6, 7}
			s, err := call.Read(r)
			if err != api.OK {
				return
			}
			want := regs{r[0]}
			for _, i := range l {
				want[i] = r[i]
			}
			if got, err := call.Put(s); got != want || err != api.OK {
				t.Fatalf("Put of Read(%v): %v %d, want %v", r, got, err, want)
			}
		})
	}
}

// P21.1, P21.3: what is answered hangs on nothing that was asked before.
func TestAlone(t *testing.T) {
	for _, x := range table {
		for _, y := range table {
			call.Read(y.r)
			call.Put(y.s)
			call.Put(api.Sys{No: x.s.No, A: -1, C: 3, W: true})
			call.Told(y.r, api.ErrFull, 3, 4)
			reads(t, x.r)
			puts(t, x.s)
		}
	}
}
