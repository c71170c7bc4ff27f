package octet_test

import (
	"math"
	"strings"
	"testing"

	"priory/api"
	"priory/octet"
)

// off are numbers that are no width. Eight times 1<<61 goes round to 0, that of 1<<61 + 1 to 8.
var off = []int{math.MinInt, math.MinInt + 1, -1 << 61, -1<<61 + 1, -1 << 32, -1 << 31, -256, -8, -4, -2, -1, 0, 5, 6, 7, 8, 16, 32, 255, 256, 257, 1<<16 + 1, math.MaxInt32, 1 << 32, 1<<32 + 1, 1 << 61, 1<<61 + 1, math.MaxInt - 1, math.MaxInt}

// most is the greatest number of each width, from 1 on.
var most = [5]uint32{1: 1<<8 - 1, 2: 1<<16 - 1, 3: 1<<24 - 1, 4: 1<<32 - 1}

// texts are of all kinds: bytes that are no characters, zeros, long ones.
var texts = []string{"", "\x00", "\xff", "PR1", "\x02\x01\x07", "\x00\x00\x00\x00", "\xff\xff\xff\xff\xff", "é€\xc3\x28\xa0", "a\x00b", strings.Repeat("\x80\x7f", 5000)}

// bytesOf is the document's rule by sums: the number's digits to the base 256, the highest first.
func bytesOf(n uint32, width int) string {
	l := make([]byte, width)
	rest := uint64(n)
	for i := range l {
		unit := uint64(1)
		for range width - 1 - i {
			unit *= 256
		}
		l[i] = byte(rest / unit)
		rest %= unit
	}
	return string(l)
}

// numbers are those at the edges of all widths, single bits, and some all over.
func numbers() []uint32 {
	l := []uint32{0, 1, 2, 127, 128, 513, 0x01020304, 0xfffefdfc, 1<<32 - 1, 1<<32 - 2}
	for bit := range 32 {
		l = append(l, 1<<bit-1, 1<<bit, 1<<bit+1)
	}
	for i := range uint32(5000) {
		l = append(l, i*0x9e3779b1, i*0x9e3779b1>>8, i*0x9e3779b1>>16, i*0x9e3779b1>>24)
	}
	return l
}

// model is a reader as the document tells it.
type model struct {
	s    string
	fine bool
}

// fail is what happens where something does not come.
func (m *model) fail() { *m = model{} }

func (m *model) num(width int) uint32 {
	if !m.fine || width < 1 || width > 4 || len(m.s) < width {
		m.fail()
		return 0
	}
	var n uint64
	for i := range width {
		n = 256*n + uint64(m.s[i])
	}
	m.s = m.s[width:]
	return uint32(n)
}

func (m *model) text(s string) bool {
	if !m.fine || !strings.HasPrefix(m.s, s) {
		m.fail()
		return false
	}
	m.s = m.s[len(s):]
	return true
}

// stands holds what a reader has left, and whether it is fine, against the model.
func stands(t *testing.T, r *octet.Reader, want model) {
	t.Helper()
	if r.Left() != len(want.s) || r.Fine() != want.fine {
		t.Fatalf("Left: %d, Fine: %v, want %d, %v", r.Left(), r.Fine(), len(want.s), want.fine)
	}
}

// nums holds Num of a width against the model.
func nums(t *testing.T, r *octet.Reader, m *model, width int) {
	t.Helper()
	before := *m
	if got, want := r.Num(width), m.num(width); got != want {
		t.Fatalf("Num(%d) of %.40q: %#x, want %#x", width, before.s, got, want)
	}
	stands(t, r, *m)
}

// tells holds Text of some bytes against the model.
func tells(t *testing.T, r *octet.Reader, m *model, s string) {
	t.Helper()
	before := *m
	if got, want := r.Text(s), m.text(s); got != want {
		t.Fatalf("Text(%.40q) of %.40q: %v, want %v", s, before.s, got, want)
	}
	stands(t, r, *m)
}

// over is that nothing comes any more, and that nothing mends it.
func over(t *testing.T, r *octet.Reader) {
	t.Helper()
	for range 2 {
		for _, width := range append([]int{1, 2, 3, 4}, off...) {
			nums(t, r, &model{}, width)
		}
		for _, s := range texts {
			tells(t, r, &model{}, s)
		}
	}
}

// reader is a new reader, which must be there, and its model.
func reader(t *testing.T, s string) (*octet.Reader, *model) {
	t.Helper()
	r := octet.New(s)
	if r == nil {
		t.Fatalf("New(%.40q): nil", s)
	}
	m := &model{s, true}
	stands(t, r, *m)
	return r, m
}

func TestPut(t *testing.T) { // P5.1
	for _, n := range numbers() {
		for width := 1; width <= 4; width++ {
			want, wantErr := "", api.ErrArg
			if n <= most[width] {
				want, wantErr = bytesOf(n, width), api.OK
			}
			if s, err := octet.Put(n, width); s != want || err != wantErr {
				t.Fatalf("Put(%#x, %d): %q %d, want %q %d", n, width, s, err, want, wantErr)
			}
		}
	}
}

func TestPutByHand(t *testing.T) { // P5.1
	for _, x := range []struct {
		n     uint32
		width int
		s     string
	}{
		{0, 1, "\x00"},
		{0, 2, "\x00\x00"},
		{0, 3, "\x00\x00\x00"},
		{0, 4, "\x00\x00\x00\x00"},
		{255, 1, "\xff"},
		{255, 2, "\x00\xff"},
		{256, 2, "\x01\x00"},
		{513, 2, "\x02\x01"},
		{513, 4, "\x00\x00\x02\x01"},
		{65535, 2, "\xff\xff"},
		{65536, 3, "\x01\x00\x00"},
		{0x010203, 3, "\x01\x02\x03"},
		{1<<24 - 1, 3, "\xff\xff\xff"},
		{1 << 24, 4, "\x01\x00\x00\x00"},
		{0x80ff0001, 4, "\x80\xff\x00\x01"},
		{1<<32 - 1, 4, "\xff\xff\xff\xff"},
	} {
		if s, err := octet.Put(x.n, x.width); s != x.s || err != api.OK {
			t.Errorf("Put(%#x, %d): %q %d, want %q", x.n, x.width, s, err, x.s)
		}
	}
}

func TestPutOfWhatDoesNotFit(t *testing.T) { // P5.1
	for width := 1; width <= 3; width++ {
		for _, n := range []uint32{most[width] + 1, most[width] + 2, 2*most[width] + 2, 1 << 31, 1<<32 - 1} {
			if s, err := octet.Put(n, width); s != "" || err != api.ErrArg {
				t.Errorf("Put(%#x, %d): %q %d, want ErrArg", n, width, s, err)
			}
		}
	}
	for _, width := range off {
		for _, n := range []uint32{0, 1, 255, 256, 1 << 31, 1<<32 - 1} {
			if s, err := octet.Put(n, width); s != "" || err != api.ErrArg {
				t.Errorf("Put(%#x, %d): %q %d, want ErrArg", n, width, s, err)
			}
		}
	}
}

func TestNewIsFine(t *testing.T) { // P5.2
	for _, s := range texts {
		r, m := reader(t, s)
		// Asking does not go on.
		for range 3 {
			stands(t, r, *m)
		}
	}
}

func TestNum(t *testing.T) { // P5.2
	for _, s := range texts {
		for width := 1; width <= 4; width++ {
			r, m := reader(t, s)
			for m.fine {
				nums(t, r, m, width)
			}
			over(t, r)
		}
	}
}

func TestNumByHand(t *testing.T) { // P5.2
	r, _ := reader(t, "\x01\x02\x03\x04\x05\x06\x07\xff\xfe\xfd\xfc")
	for _, x := range []struct {
		width int
		n     uint32
		left  int
	}{{4, 0x01020304, 7}, {1, 5, 6}, {2, 0x0607, 4}, {4, 0xfffefdfc, 0}} {
		if n := r.Num(x.width); n != x.n || r.Left() != x.left || !r.Fine() {
			t.Errorf("Num(%d): %#x, Left: %d, Fine: %v, want %#x, %d", x.width, n, r.Left(), r.Fine(), x.n, x.left)
		}
	}
	if n := r.Num(1); n != 0 || r.Fine() {
		t.Errorf("Num(1) at the end: %#x, Fine: %v", n, r.Fine())
	}
}

func TestNumOfTooFewBytes(t *testing.T) { // P5.2
	const s = "\xfb\xfc\xfd\xfe\xff"
	for ahead := 0; ahead <= len(s); ahead++ {
		for width := 1; width <= 4; width++ {
			for have := range width {
				// Some bytes are gone through first, so that fewer are left than there were.
				r, m := reader(t, s[:ahead]+s[:have])
				tells(t, r, m, s[:ahead])
				nums(t, r, m, width)
				if m.fine {
					t.Fatalf("Num(%d) of %d bytes is fine", width, have)
				}
				over(t, r)
			}
		}
	}
}

func TestNumOfNoWidth(t *testing.T) { // P5.2
	for _, width := range off {
		for _, s := range texts {
			r, m := reader(t, s)
			nums(t, r, m, width)
			over(t, r)
		}
		r, m := reader(t, "\x01\x02\x03\x04\x05\x06\x07\x08\x09")
		nums(t, r, m, 2)
		nums(t, r, m, width)
		over(t, r)
	}
}

func TestText(t *testing.T) { // P5.2
	for _, s := range texts {
		for _, x := range texts {
			r, m := reader(t, s+x)
			tells(t, r, m, s)
			tells(t, r, m, x)
			if !m.fine || len(m.s) != 0 {
				t.Fatalf("%d bytes are left", len(m.s))
			}
			nums(t, r, m, 1)
			over(t, r)
			r, m = reader(t, s)
			tells(t, r, m, x)
			if !m.fine {
				over(t, r)
			}
		}
	}
}

func TestTextThatDoesNotCome(t *testing.T) { // P5.2
	for _, x := range []struct{ have, asked string }{
		{"", "P"},
		{"P", "PR"},
		{"PR1", "PR1\x00"},
		{"PR1", "PR2"},
		{"PR1", "QR1"},
		{"PR1", "pr1"},
		{"PR1", "R1"},
		{"PR1\x01", "PR1\x00"},
		{"\xff", "\xfe"},
		{"\x80", "\x81"},
		{"\x80", "\ufffd"},
		{"\x00\x00", "\x00\x00\x00"},
		{"é", "e\u0301"},
	} {
		r, _ := reader(t, x.have)
		if r.Text(x.asked) {
			t.Errorf("Text(%q) of %q: true", x.asked, x.have)
		}
		over(t, r)
	}
}

func TestTextByteByByte(t *testing.T) { // P5.2
	// Every byte comes as itself, and as no other.
	for have := range 256 {
		for asked := range 256 {
			r := octet.New(string([]byte{byte(have)}))
			if got := r.Text(string([]byte{byte(asked)})); got != (have == asked) || r.Fine() != got || r.Left() != 0 {
				t.Fatalf("Text of %#x where %#x comes: %v, Fine: %v, Left: %d", asked, have, got, r.Fine(), r.Left())
			}
		}
	}
}

func TestEmptyText(t *testing.T) { // P5.2
	for _, s := range texts {
		r, m := reader(t, s)
		for range 3 {
			tells(t, r, m, "")
		}
		// At the end, too, an empty text comes.
		tells(t, r, m, s)
		tells(t, r, m, "")
		if !m.fine {
			t.Fatal("an empty text did not come")
		}
		// But not where something was wrong.
		nums(t, r, m, 1)
		tells(t, r, m, "")
		if m.fine {
			t.Fatal("an empty text came of a reader that is not fine")
		}
	}
}

func TestNoReader(t *testing.T) { // P5.2
	for _, r := range []*octet.Reader{nil, {}, new(octet.Reader)} {
		stands(t, r, model{})
		over(t, r)
	}
}

func TestReadersAreApart(t *testing.T) { // P5.2
	const s = "\x01\x02\x03\x04"
	a, am := reader(t, s)
	b, bm := reader(t, s)
	nums(t, a, am, 3)
	stands(t, b, *bm)
	nums(t, b, bm, 2)
	nums(t, a, am, 4)
	over(t, a)
	nums(t, b, bm, 2)
	if !bm.fine {
		t.Error("a reader is spoilt by another one")
	}
}

func TestReadersOfAnything(t *testing.T) { // P5.2
	state := uint32(1)
	next := func(below int) int {
		state = state*1664525 + 1013904223
		return int(state>>8) % below
	}
	gone, spoilt := 0, 0
	for range 5000 {
		l := make([]byte, next(40))
		for i := range l {
			l[i] = byte(next(256))
		}
		r, m := reader(t, string(l))
		for range next(30) {
			if s := m.s; next(3) > 0 || len(s) == 0 {
				nums(t, r, m, next(60)%5+next(20)/19)
			} else {
				// Mostly what comes next, at times with its last byte changed.
				x := []byte(s[:next(min(len(s), 5)+1)])
				if len(x) > 0 && next(8) == 0 {
					x[len(x)-1] ^= 1 << next(8)
				}
				tells(t, r, m, string(x))
			}
		}
		if m.fine {
			gone++
		} else {
			spoilt++
		}
	}
	if gone < 500 || spoilt < 500 {
		t.Errorf("%d readers are fine, %d are not", gone, spoilt)
	}
}

func TestNumbersComeBack(t *testing.T) { // P5.3
	var all strings.Builder
	type put struct {
		n     uint32
		width int
	}
	var l []put
	for _, n := range numbers() {
		for width := 1; width <= 4; width++ {
			s, err := octet.Put(n, width)
			if err != api.OK {
				continue
			}
			r := octet.New(s)
			if back := r.Num(width); back != n || !r.Fine() || r.Left() != 0 {
				t.Fatalf("Num(%d) of Put(%#x): %#x, Fine: %v, Left: %d", width, n, back, r.Fine(), r.Left())
			}
			all.WriteString(s)
			l = append(l, put{n, width})
		}
	}
	// And one behind the other.
	r := octet.New(all.String())
	for _, x := range l {
		if back := r.Num(x.width); back != x.n || !r.Fine() {
			t.Fatalf("Num(%d): %#x, Fine: %v, want %#x", x.width, back, r.Fine(), x.n)
		}
	}
	if r.Left() != 0 {
		t.Errorf("%d bytes are left", r.Left())
	}
}

func TestBytesComeBack(t *testing.T) { // P5.3
	l := make([]byte, 4*3*5000)
	for i := range l {
		l[i] = byte(uint32(i+1) * 0x9e3779b1 >> 24)
	}
	for width := 1; width <= 4; width++ {
		r := octet.New(string(l))
		var back strings.Builder
		for range len(l) / width {
			s, err := octet.Put(r.Num(width), width)
			if err != api.OK {
				t.Fatalf("Put of Num(%d): %d", width, err)
			}
			back.WriteString(s)
		}
		if !r.Fine() || r.Left() != 0 || back.String() != string(l) {
			t.Errorf("what was read by the width %d, put again, are not the bytes (Fine: %v, Left: %d)", width, r.Fine(), r.Left())
		}
	}
	// All bytes, and all pairs of them.
	for n := range 1 << 16 {
		two := string([]byte{byte(n >> 8), byte(n)})
		if s, err := octet.Put(octet.New(two).Num(2), 2); s != two || err != api.OK {
			t.Fatalf("Put of Num(2) of %q: %q %d", two, s, err)
		}
		if s, err := octet.Put(octet.New(two[1:]).Num(1), 1); s != two[1:] || err != api.OK {
			t.Fatalf("Put of Num(1) of %q: %q %d", two[1:], s, err)
		}
	}
}

func TestExamples(t *testing.T) {
	if s, err := octet.Put(513, 2); s != "\x02\x01" || err != api.OK {
		t.Errorf("Put(513, 2): %q %d", s, err)
	}
	if s, err := octet.Put(256, 1); s != "" || err != api.ErrArg {
		t.Errorf("Put(256, 1): %q %d, want ErrArg", s, err)
	}
	r := octet.New("\x02\x01\x07")
	if n := r.Num(2); n != 513 || r.Left() != 1 {
		t.Errorf("Num(2): %d, Left: %d", n, r.Left())
	}
	if n := r.Num(2); n != 0 || r.Fine() || r.Left() != 0 {
		t.Errorf("Num(2): %d, Fine: %v, Left: %d", n, r.Fine(), r.Left())
	}
}
