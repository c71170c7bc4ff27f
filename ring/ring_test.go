package ring_test

import (
	"math"
	"slices"
	"testing"

	"priory/api"
	"priory/ring"
)

// off are numbers that are neither a cap nor a width, among them such of which the lower bits alone are one.
var off = []int{math.MinInt, math.MinInt + 1, math.MinInt + 8, -1 << 32, -1<<32 + 1, -1 << 31, -256, -255, -9, -8, -7, -2, -1, 0, 9, 10, 15, 16, 17, 63, 64, 65, 255, 256, 257, 264, 1 << 16, 1<<16 + 1, math.MaxInt32, 1 << 32, 1<<32 + 1, 1<<32 + 8, math.MaxInt - 7, math.MaxInt}

// offMany are lengths that no message has, whatever the ring.
var offMany = []int{0, 9, 10, 15, 16, 17, 31, 64, 255, 256, 257, 264, 1 << 16, 1<<16 + 1, 1<<16 + 8}

// offLengths are words that are no message's length, among them such of which the lower bits alone, or the bits as a number below 0, may be.
var offLengths = []api.Word{0, 9, 10, 255, 256, 257, 264, 1 << 16, 1<<16 + 1, 1 << 31, 1<<31 + 1, 1<<31 + 8, math.MaxUint32 - 7, math.MaxUint32}

// random is a row of numbers that is always the same.
type random uint32

// below tells the next number, which is below n.
func (r *random) below(n int) int {
	*r = *r*1664525 + 1013904223
	return int(*r>>8) % n
}

// spare is how many words are kept ahead of a ring's own, and behind them: none of them is ever put.
const spare = 100

// strange is what stands at a place of the words at first.
func strange(at int) api.Word { return 0x80000000 | api.Word(at+spare) }

// rig is a ring, the words it lies over, and what should be in both.
type rig struct {
	t          *testing.T
	r          *ring.Ring
	cap, width int
	words      []api.Word
	want       []api.Word
	row        [][]api.Word
	first      int
	asked, set []int
}

// rigged is a ring that is empty, over strange words.
func rigged(t *testing.T, cap, width int) *rig {
	t.Helper()
	r, err := ring.New(cap, width)
	if r == nil || err != api.OK {
		t.Fatalf("New(%d, %d): %v, %d", cap, width, r, err)
	}
	g := &rig{t: t, r: r, cap: cap, width: width}
	for at := -spare; at < cap*(width+1)+spare; at++ {
		g.words = append(g.words, strange(at))
	}
	g.want = slices.Clone(g.words)
	return g
}

// get tells a word, and notes its place.
func (g *rig) get(at int) api.Word {
	g.asked = append(g.asked, at)
	return g.words[at+spare]
}

// put puts a word, and notes its place.
func (g *rig) put(at int, w api.Word) {
	g.set = append(g.set, at)
	g.words[at+spare] = w
}

// places are those of a message's first words, of that behind so many.
func (g *rig) places(behind, many int) []int {
	var l []int
	for i := range many {
		l = append(l, (g.first+behind)%g.cap*(g.width+1)+i)
	}
	return l
}

// same says what is wrong, if the ring is not as it should be.
func (g *rig) same(call string) {
	g.t.Helper()
	if !slices.Equal(g.words, g.want) {
		g.t.Fatalf("%d, %d: %s: words %x, want %x", g.cap, g.width, call, g.words[spare:len(g.words)-spare], g.want[spare:len(g.want)-spare])
	}
	if g.r.Len() != len(g.row) || g.r.Words() != g.cap*(g.width+1) {
		g.t.Fatalf("%d, %d: %s: Len %d, want %d; Words %d", g.cap, g.width, call, g.r.Len(), len(g.row), g.r.Words())
	}
	next := 0
	if len(g.row) > 0 {
		next = len(g.row[0])
	}
	if n := g.r.Next(g.get); n != next {
		g.t.Fatalf("%d, %d: %s: Next %d, want %d", g.cap, g.width, call, n, next)
	}
}

// noted tells which places were asked for, and which were put, since it was asked last.
func (g *rig) noted() (asked, set []int) {
	asked, set = g.asked, g.set
	g.asked, g.set = nil, nil
	return asked, set
}

// send sends a message, and holds what comes of it against what should.
func (g *rig) send(l []api.Word) api.Errno {
	g.t.Helper()
	g.noted()
	want := api.OK
	switch {
	case len(l) < 1 || len(l) > g.width:
		want = api.ErrArg
	case len(g.row) == g.cap:
		want = api.ErrAgain
	}
	err := g.r.Send(l, g.put)
	asked, set := g.noted()
	var places []int
	if want == api.OK {
		places = g.places(len(g.row), len(l)+1)
		copy(g.want[places[0]+spare:], append([]api.Word{api.Word(len(l))}, l...))
		g.row = append(slices.Clone(g.row), slices.Clone(l))
	}
	slices.Sort(set)
	if err != want || asked != nil || !slices.Equal(set, places) {
		g.t.Fatalf("%d, %d: Send(%x): %d, put %v, want %d, %v", g.cap, g.width, l, err, set, want, places)
	}
	g.same("Send")
	return err
}

// recv takes a message, and holds what comes of it against what should.
func (g *rig) recv() ([]api.Word, api.Errno) {
	g.t.Helper()
	g.noted()
	var l []api.Word
	var places []int
	want := api.ErrAgain
	if len(g.row) > 0 {
		l, want = g.row[0], api.OK
		places = g.places(0, len(l)+1)
		g.row, g.first = slices.Clone(g.row[1:]), (g.first+1)%g.cap
	}
	got, err := g.r.Recv(g.get)
	asked, set := g.noted()
	slices.Sort(asked)
	if err != want || !slices.Equal(got, l) || set != nil || !slices.Equal(slices.Compact(asked), places) {
		g.t.Fatalf("%d, %d: Recv: %x, %d, asked for %v, want %x, %d, %v", g.cap, g.width, got, err, asked, l, want, places)
	}
	g.same("Recv")
	return got, err
}

// message is one of so many words, that no other one is.
func message(n, many int) []api.Word {
	var l []api.Word
	for i := range many {
		l = append(l, api.Word(16*n+i+1)*0x01010101)
	}
	return l
}

// everyRing goes over all caps and widths.
func everyRing(t *testing.T, try func(g *rig)) {
	for cap := 1; cap <= 8; cap++ {
		for width := 1; width <= 8; width++ {
			try(rigged(t, cap, width))
		}
	}
}

// never is a function that must not be called.
func never(t *testing.T, call string) (func(int) api.Word, func(int, api.Word)) {
	return func(at int) api.Word {
			t.Errorf("%s: asks for the word %d", call, at)
			return 1
		}, func(at int, w api.Word) {
			t.Errorf("%s: puts the word %d: %d", call, at, w)
		}
}

func TestNew(t *testing.T) { // P19.1
	for cap := -20; cap < 40; cap++ {
		for width := -20; width < 40; width++ {
			r, err := ring.New(cap, width)
			if cap < 1 || cap > 8 || width < 1 || width > 8 {
				if r != nil || err != api.ErrArg {
					t.Errorf("New(%d, %d): %v, %d", cap, width, r, err)
				}
				continue
			}
			if r == nil || err != api.OK || r.Len() != 0 || r.Words() != cap*(width+1) {
				t.Errorf("New(%d, %d): %d, Len %d, Words %d", cap, width, err, r.Len(), r.Words())
			}
		}
	}
}

func TestNewOff(t *testing.T) { // P19.1
	for _, n := range off {
		for may := -1; may <= 9; may++ {
			if r, err := ring.New(n, may); r != nil || err != api.ErrArg {
				t.Errorf("New(%d, %d): %v, %d", n, may, r, err)
			}
			if r, err := ring.New(may, n); r != nil || err != api.ErrArg {
				t.Errorf("New(%d, %d): %v, %d", may, n, r, err)
			}
		}
		for _, other := range off {
			if r, err := ring.New(n, other); r != nil || err != api.ErrArg {
				t.Errorf("New(%d, %d): %v, %d", n, other, r, err)
			}
		}
	}
}

func TestEmpty(t *testing.T) { // P19.1, P19.2
	everyRing(t, func(g *rig) {
		get, _ := never(t, "an empty ring")
		l, err := g.r.Recv(get)
		if l != nil || err != api.ErrAgain || g.r.Next(get) != 0 || g.r.Len() != 0 {
			t.Errorf("%d, %d: %v, %d", g.cap, g.width, l, err)
		}
		g.same("at first")
	})
}

func TestNoRing(t *testing.T) { // P19.1, P19.2
	refused, _ := ring.New(0, 1)
	get, put := never(t, "no ring")
	for _, r := range []*ring.Ring{nil, {}, refused} {
		for _, l := range [][]api.Word{nil, {}, {1}, message(0, 8), message(0, 9)} {
			if err := r.Send(l, put); err != api.ErrNil {
				t.Errorf("Send: %d", err)
			}
			if err := r.Send(l, nil); err != api.ErrNil {
				t.Errorf("Send: %d", err)
			}
		}
		if l, err := r.Recv(get); l != nil || err != api.ErrNil {
			t.Errorf("Recv: %v, %d", l, err)
		}
		if l, err := r.Recv(nil); l != nil || err != api.ErrNil {
			t.Errorf("Recv: %v, %d", l, err)
		}
		if r.Next(get) != 0 || r.Next(nil) != 0 || r.Len() != 0 || r.Words() != 0 {
			t.Errorf("Next, Len, Words of none")
		}
	}
}

func TestNoFunction(t *testing.T) { // P19.2: ErrNil ahead of ErrArg and ErrAgain
	everyRing(t, func(g *rig) {
		for {
			for many := range g.width + 3 {
				if err := g.r.Send(message(1, many), nil); err != api.ErrNil {
					t.Errorf("%d, %d: Send of %d words: %d", g.cap, g.width, many, err)
				}
			}
			if l, err := g.r.Recv(nil); l != nil || err != api.ErrNil {
				t.Errorf("%d, %d: Recv: %v, %d", g.cap, g.width, l, err)
			}
			if g.r.Next(nil) != 0 {
				t.Errorf("%d, %d: Next", g.cap, g.width)
			}
			g.same("no function")
			if len(g.row) == g.cap {
				return
			}
			g.send(message(len(g.row), 1))
		}
	})
}

func TestSendOff(t *testing.T) { // P19.2: ErrArg ahead of ErrAgain
	everyRing(t, func(g *rig) {
		_, put := never(t, "Send")
		for {
			for _, many := range offMany {
				if err := g.r.Send(make([]api.Word, many), put); err != api.ErrArg {
					t.Errorf("%d, %d: Send of %d words: %d", g.cap, g.width, many, err)
				}
			}
			if err := g.r.Send(nil, put); err != api.ErrArg {
				t.Errorf("%d, %d: Send of none: %d", g.cap, g.width, err)
			}
			if err := g.r.Send(message(1, g.width+1), put); err != api.ErrArg {
				t.Errorf("%d, %d: Send of too many: %d", g.cap, g.width, err)
			}
			g.same("Send")
			if len(g.row) == g.cap {
				return
			}
			g.send(message(len(g.row), g.width))
		}
	})
}

func TestFull(t *testing.T) { // P19.2
	everyRing(t, func(g *rig) {
		for range g.cap {
			if err := g.send(message(len(g.row), 1)); err != api.OK {
				t.Errorf("Send: %d", err)
			}
		}
		_, put := never(t, "a full ring")
		for many := 1; many <= g.width; many++ {
			if err := g.r.Send(message(9, many), put); err != api.ErrAgain {
				t.Errorf("%d, %d: Send of %d words: %d", g.cap, g.width, many, err)
			}
		}
		g.same("Send")
		g.recv()
		if err := g.send(message(9, g.width)); err != api.OK {
			t.Errorf("%d, %d: Send: %d", g.cap, g.width, err)
		}
	})
}

func TestGoesRound(t *testing.T) { // P19.2, P19.3: from each place on, with each number of messages, of each length
	everyRing(t, func(g *rig) {
		n := 0
		for range 3*g.cap + 1 {
			for many := 1; many <= g.cap; many++ {
				for range many {
					n++
					g.send(message(n, n%g.width+1))
				}
				for range many {
					g.recv()
				}
			}
			g.recv()
			n++
			g.send(message(n, n%g.width+1))
			g.recv()
		}
	})
}

func TestMessages(t *testing.T) { // P19.2, P19.3: all lengths, words of all bits
	everyRing(t, func(g *rig) {
		for many := 1; many <= g.width; many++ {
			for bit := range 33 {
				l := make([]api.Word, many)
				for i := range l {
					l[i] = api.Word(uint64(1)<<bit - 1)
				}
				g.send(l)
				g.recv()
				for i := range l {
					l[i] = api.Word(uint64(1) << bit)
				}
				g.send(l)
				g.recv()
			}
		}
	})
}

// rows goes over all rows of so many steps, of so many kinds.
func rows(steps, kinds int, try func(row []int)) {
	row := make([]int, steps)
	for {
		try(row)
		i := 0
		for i < steps && row[i] == kinds-1 {
			row[i] = 0
			i++
		}
		if i == steps {
			return
		}
		row[i]++
	}
}

func TestAllRows(t *testing.T) { // P19.2, P19.3
	for cap := 1; cap <= 3; cap++ {
		for width := 1; width <= 3; width++ {
			rows(6, 4, func(row []int) {
				g := rigged(t, cap, width)
				for i, step := range row {
					switch step {
					case 0:
						g.recv()
					case 1:
						g.send(message(i, 1))
					case 2:
						g.send(message(i, width))
					case 3:
						g.send(message(i, width+i%2))
					}
				}
			})
		}
	}
}

func TestModel(t *testing.T) { // P19.1, P19.2, P19.3
	everyRing(t, func(g *rig) {
		r := random(64*g.cap + g.width)
		for i := range 600 {
			// Long stretches of more sending than taking, and the other way round.
			if r.below(8) < 3+2*(i/40%2) {
				g.recv()
				continue
			}
			var l []api.Word
			for range r.below(g.width + 2) {
				l = append(l, api.Word(r.below(1<<24))<<8|api.Word(r.below(256)))
			}
			g.send(l)
		}
	})
}

func TestLengthsThatMayNotBe(t *testing.T) { // P19.2: what is kept is somebody else's to change
	everyRing(t, func(g *rig) {
		lengths := slices.Clone(offLengths)
		for n := g.width + 1; n <= 16; n++ {
			lengths = append(lengths, api.Word(n))
		}
		for _, length := range lengths {
			g.send(message(1, 1))
			places := g.places(0, g.width+1)
			g.words[places[0]+spare] = length
			if n := g.r.Next(g.get); n != g.width {
				t.Fatalf("%d, %d: length %d: Next %d", g.cap, g.width, length, n)
			}
			g.noted()
			l, err := g.r.Recv(g.get)
			asked, _ := g.noted()
			slices.Sort(asked)
			if err != api.OK || !slices.Equal(l, g.words[places[0]+spare+1:places[g.width]+spare+1]) || !slices.Equal(slices.Compact(asked), places) {
				t.Fatalf("%d, %d: length %d: Recv %x, %d, asked for %v", g.cap, g.width, length, l, err, asked)
			}
			g.words[places[0]+spare] = 1
			g.row, g.first = nil, (g.first+1)%g.cap
			g.same("Recv")
		}
	})
}

func TestLengthsThatMayBe(t *testing.T) { // P19.2: what is kept counts, not what was sent
	everyRing(t, func(g *rig) {
		for was := 1; was <= g.width; was++ {
			for is := 1; is <= g.width; is++ {
				g.send(message(1, was))
				place := g.places(0, 1)[0] + spare
				g.words[place], g.want[place] = api.Word(is), api.Word(is)
				g.row[0] = slices.Clone(g.words[place+1 : place+1+is])
				g.same("a length that is set")
				g.recv()
			}
		}
	})
}

func TestWordsThatChange(t *testing.T) { // P19.2: a message is what is kept when it is taken
	everyRing(t, func(g *rig) {
		for range g.cap {
			g.send(message(len(g.row), g.width))
		}
		for k := range g.cap {
			for i := range g.width {
				at := k*(g.width+1) + 1 + i + spare
				g.words[at] = ^g.words[at]
				g.want[at] = g.words[at]
				g.row[k][i] = g.words[at]
			}
		}
		for range g.cap {
			g.recv()
		}
	})
}

func TestHandedIn(t *testing.T) { // P19.2: what is handed in isn't changed, nor kept
	everyRing(t, func(g *rig) {
		room := message(3, 16)
		for i := 1; i <= g.cap; i++ {
			many := i%g.width + 1
			g.send(room[:many])
			if !slices.Equal(room, message(3, 16)) {
				t.Fatalf("%d, %d: Send changes what it is handed: %x", g.cap, g.width, room)
			}
		}
		for i := range room {
			room[i] = 7
		}
		for range g.cap {
			g.recv()
		}
	})
}

func TestAnswers(t *testing.T) { // P19.2: answers are new memory
	everyRing(t, func(g *rig) {
		var answers [][]api.Word
		for i := range 3 * g.cap {
			g.send(message(i, g.width))
			l, _ := g.recv()
			for _, other := range answers {
				for k := range other {
					other[k] = 99
				}
			}
			if !slices.Equal(l, message(i, g.width)) {
				t.Fatalf("%d, %d: Recv %x changes with other answers", g.cap, g.width, l)
			}
			// What is appended to an answer is in nobody's way.
			answers = append(answers, l, append(l, 5, 6))
			g.same("answers that are changed")
		}
	})
}

func TestAmongTheWords(t *testing.T) { // P19.2: a message that lies where it is put is sent as it was handed in
	for width := 2; width <= 8; width++ {
		for from := range width {
			g := rigged(t, 2, width)
			for i := range g.words {
				g.words[i] = api.Word(1000 + i)
			}
			l := g.words[spare+from : spare+from+width]
			was := slices.Clone(l)
			if err := g.r.Send(l, g.put); err != api.OK {
				t.Errorf("Send: %d", err)
			}
			if got, err := g.r.Recv(g.get); err != api.OK || !slices.Equal(got, was) {
				t.Errorf("%d, from %d: %v, %d, want %v", width, from, got, err, was)
			}
		}
	}
}

func TestRingsOfTheirOwn(t *testing.T) { // P19.2, P19.3: two rings don't feel each other
	a, b := rigged(t, 3, 2), rigged(t, 3, 2)
	a.send(message(1, 2))
	a.send(message(2, 1))
	b.same("another ring's Send")
	b.send(message(3, 1))
	a.same("another ring's Send")
	b.recv()
	a.same("another ring's Recv")
	a.recv()
	b.same("another ring's Recv")
	if l, err := a.recv(); err != api.OK || !slices.Equal(l, message(2, 1)) {
		t.Errorf("Recv: %x, %d", l, err)
	}
}

func TestOtherFunctions(t *testing.T) { // P19.2: functions are not kept from call to call
	r, _ := ring.New(2, 2)
	var one, other [6]api.Word
	r.Send([]api.Word{1, 2}, func(at int, w api.Word) { one[at] = w })
	r.Send([]api.Word{3}, func(at int, w api.Word) { other[at] = w })
	if one != [6]api.Word{2, 1, 2} || other != [6]api.Word{3: 1, 4: 3} {
		t.Errorf("%v, %v", one, other)
	}
	other[0], other[1] = 1, 9
	if n := r.Next(func(at int) api.Word { return other[at] }); n != 1 {
		t.Errorf("Next: %d", n)
	}
	if n := r.Next(func(at int) api.Word { return one[at] }); n != 2 {
		t.Errorf("Next: %d", n)
	}
	if l, err := r.Recv(func(at int) api.Word { return other[at] }); err != api.OK || !slices.Equal(l, []api.Word{9}) {
		t.Errorf("Recv: %v, %d", l, err)
	}
}

func TestFunctionsThatPanic(t *testing.T) { // P19.2: no call panics, and one that answers an error has changed nothing of the ring
	everyRing(t, func(g *rig) {
		for first := range g.cap {
			for after := range g.width + 1 {
				left := after
				put := func(int, api.Word) {
					if left--; left < 0 {
						panic("no word")
					}
				}
				if err := g.r.Send(message(1, g.width), put); err != api.ErrArg {
					t.Fatalf("Send: %d", err)
				}
				g.same("a Send that panics")
				g.send(message(first, g.width))
				left = after
				get := func(at int) api.Word {
					if left--; left < 0 {
						panic(api.OK)
					}
					return g.get(at)
				}
				if l, err := g.r.Recv(get); l != nil || err != api.ErrArg {
					t.Fatalf("Recv: %v, %d", l, err)
				}
				g.same("a Recv that panics")
				g.recv()
			}
			g.send(message(first, 1))
			if n := g.r.Next(func(int) api.Word { panic("no word") }); n != 0 {
				t.Fatalf("Next: %d", n)
			}
			g.same("a Next that panics")
			g.recv()
		}
	})
}

func TestFunctionsThatCall(t *testing.T) { // P19.2: functions that call the ring themselves bring it into no state that may not be
	everyRing(t, func(g *rig) {
		random := random(8*g.cap + g.width)
		deep := 0
		var put func(int, api.Word)
		var get func(int) api.Word
		call := func() {
			if deep == 3 || random.below(3) == 0 {
				return
			}
			deep++
			defer func() { deep-- }()
			switch random.below(3) {
			case 0:
				g.r.Send(message(1, random.below(g.width)+1), put)
			case 1:
				g.r.Recv(get)
			case 2:
				g.r.Next(get)
			}
		}
		within := func(at int) {
			if n := g.r.Len(); at < 0 || at >= g.cap*(g.width+1) || n < 0 || n > g.cap {
				t.Fatalf("%d, %d: the place %d, Len %d", g.cap, g.width, at, n)
			}
			call()
		}
		put = func(at int, w api.Word) { within(at); g.put(at, w) }
		get = func(at int) api.Word { within(at); return g.get(at) }
		for range 100 {
			call()
			if n := g.r.Len(); n < 0 || n > g.cap {
				t.Fatalf("%d, %d: Len %d", g.cap, g.width, n)
			}
		}
	})
}

func TestFixed(t *testing.T) { // P1, P19.3: the same calls have the same answers
	play := func(g *rig) (answers []api.Word) {
		r := random(5)
		for range 200 {
			if r.below(2) == 0 {
				answers = append(answers, api.Word(g.send(message(r.below(9), r.below(g.width+2)))))
				continue
			}
			l, err := g.recv()
			answers = append(append(answers, l...), api.Word(err), api.Word(g.r.Len()))
		}
		return append(answers, g.words...)
	}
	if a, b := play(rigged(t, 3, 5)), play(rigged(t, 3, 5)); !slices.Equal(a, b) {
		t.Errorf("%v, then %v", a, b)
	}
}

func TestExamples(t *testing.T) { // P19.1, P19.2
	r, err := ring.New(2, 3)
	if err != api.OK || r.Words() != 8 {
		t.Fatalf("New: %d, Words %d", err, r.Words())
	}
	words := [8]api.Word{2: 77, 3: 78}
	put := func(at int, w api.Word) { words[at] = w }
	get := func(at int) api.Word { return words[at] }
	if err := r.Send([]api.Word{7}, put); err != api.OK {
		t.Errorf("Send(7): %d", err)
	}
	if err := r.Send([]api.Word{1, 2, 3}, put); err != api.OK || words != [8]api.Word{1, 7, 77, 78, 3, 1, 2, 3} {
		t.Errorf("Send(1 2 3): %d, %v", err, words)
	}
	if err := r.Send([]api.Word{5}, put); err != api.ErrAgain {
		t.Errorf("Send(5): %d", err)
	}
	if l, err := r.Recv(get); err != api.OK || !slices.Equal(l, []api.Word{7}) {
		t.Errorf("Recv: %v, %d", l, err)
	}
	if err := r.Send([]api.Word{5}, put); err != api.OK || words[0] != 1 || words[1] != 5 {
		t.Errorf("Send(5): %d, %v", err, words)
	}
	for _, l := range [][]api.Word{nil, {1, 2, 3, 4}} {
		if err := r.Send(l, put); err != api.ErrArg {
			t.Errorf("Send(%v): %d", l, err)
		}
	}
}
