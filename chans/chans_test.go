package chans_test

import (
	"math"
	"slices"
	"testing"

	"priory/api"
	"priory/chans"
	"priory/conf"
	"priory/mem"
)

// off are numbers that are neither a partition nor a channel, among them such of which the lower bits alone are one.
var off = []int{math.MinInt, math.MinInt + 1, math.MinInt + 8, -1 << 32, -1<<32 + 1, -1 << 31, -257, -256, -255, -16, -8, -2, -1, 16, 17, 31, 32, 33, 64, 255, 256, 257, 1 << 16, 1<<16 + 1, math.MaxInt32, 1 << 32, 1<<32 + 1, math.MaxInt - 1, math.MaxInt}

// offMany are lengths that no message has, whatever the channel.
var offMany = []int{0, 9, 10, 15, 16, 17, 31, 32, 33, 64, 255, 256, 257, 264, 1 << 16, 1<<16 + 1}

// offLengths are words that are no message's length, among them such of which the lower bits alone, or the bits as a number below 0, may be.
var offLengths = []api.Word{0, 9, 10, 255, 256, 257, 264, 1 << 16, 1<<16 + 1, 1 << 31, 1<<31 + 1, 1<<31 + 8, math.MaxUint32 - 7, math.MaxUint32}

// random is a row of numbers that is always the same.
type random uint32

// below tells the next number, which is below n.
func (r *random) below(n int) int {
	*r = *r*1664525 + 1013904223
	return int(*r>>8) % n
}

// joined is a configuration of so many partitions, joined by channels.
func joined(parts int, l ...api.ChanConf) api.Config {
	c := api.Config{Chans: l}
	for i := range parts {
		c.Parts = append(c.Parts, api.PartConf{Quota: 4 + i, Slots: 1 + i%8})
		c.Windows = append(c.Windows, api.Window{Part: i, Ticks: 1})
	}
	return c
}

// page is the words of a frame.
type page = [32]api.Word

// strange is what stands in a frame at first.
func strange(frame int) page {
	var p page
	for i := range p {
		p[i] = 0x80000000 | api.Word(32*frame+i)
	}
	return p
}

// line is a channel as it should be: its configuration, where its words begin, the place of its first message, its messages.
type line struct {
	api.ChanConf
	begin, first int
	row          [][]api.Word
}

// rig is channels, their memory, and what should be in both.
type rig struct {
	t     *testing.T
	m     *mem.Mem
	x     *chans.Chans
	parts int
	want  []page
	lines []*line
}

// pieces tells how many of a size hold n.
func pieces(n, size int) int {
	many := 0
	for ; n > 0; n -= size {
		many++
	}
	return many
}

// rigged is the channels of a configuration, in a memory of strange words that has some frames more than it must.
func rigged(t *testing.T, c api.Config, more int) *rig {
	t.Helper()
	g := &rig{t: t, parts: len(c.Parts)}
	frames := 0
	for _, p := range c.Parts {
		frames += p.Quota + pieces(p.Slots, 3)
	}
	for _, h := range c.Chans {
		g.lines = append(g.lines, &line{ChanConf: h, begin: 32 * frames})
		frames += pieces(h.Cap*(h.Words+1), 32)
	}
	g.m = filled(t, frames+more)
	for f := range frames + more {
		g.want = append(g.want, strange(f))
	}
	x, err := chans.New(g.m, c)
	if x == nil || err != api.OK {
		t.Fatalf("New of %d frames: %v, %d", frames+more, x, err)
	}
	g.x = x
	g.same("New")
	return g
}

// filled is a memory of strange words.
func filled(t *testing.T, frames int) *mem.Mem {
	t.Helper()
	m, err := mem.New(frames)
	if err != api.OK {
		t.Fatalf("a memory of %d frames: %d", frames, err)
	}
	for f := range frames {
		for i, w := range strange(f) {
			m.Write(f, i, w)
		}
	}
	return m
}

// same says what is wrong, if the channels or the memory are not as they should be.
func (g *rig) same(call string) {
	g.t.Helper()
	for f, want := range g.want {
		if p, err := g.m.Page(f); err != api.OK || page(p) != want {
			g.t.Fatalf("%s: the frame %d is %x, want %x", call, f, p, want)
		}
	}
	for ch, h := range g.lines {
		if n := g.x.Words(ch); n != h.Words {
			g.t.Fatalf("%s: Words(%d): %d, want %d", call, ch, n, h.Words)
		}
		if n := g.x.Room(ch); n != h.Cap-len(h.row) {
			g.t.Fatalf("%s: Room(%d): %d, want %d", call, ch, n, h.Cap-len(h.row))
		}
		many, want := 0, api.ErrAgain
		if len(h.row) > 0 {
			many, want = len(h.row[0]), api.OK
		}
		if n, err := g.x.Next(h.To, ch); n != many || err != want {
			g.t.Fatalf("%s: Next(%d): %d, %d, want %d, %d", call, ch, n, err, many, want)
		}
	}
}

// at tells where a word of a message is, of that behind so many of a channel.
func (h *line) at(behind, i int) int {
	return h.begin + (h.first+behind)%h.Cap*(h.Words+1) + i
}

// set puts a word where it should be.
func (g *rig) set(at int, w api.Word) { g.want[at/32][at%32] = w }

// end is the error that a channel and its end should have.
func (g *rig) end(part, ch int, send bool) api.Errno {
	switch {
	case ch < 0 || ch >= len(g.lines):
		return api.ErrNone
	case send && part != g.lines[ch].From, !send && part != g.lines[ch].To:
		return api.ErrPerm
	}
	return api.OK
}

// send sends a message, and holds what comes of it against what should.
func (g *rig) send(part, ch int, l []api.Word) api.Errno {
	g.t.Helper()
	want := g.end(part, ch, true)
	if want == api.OK {
		h := g.lines[ch]
		switch {
		case len(l) < 1 || len(l) > h.Words:
			want = api.ErrArg
		case len(h.row) == h.Cap:
			want = api.ErrAgain
		default:
			g.set(h.at(len(h.row), 0), api.Word(len(l)))
			for i, w := range l {
				g.set(h.at(len(h.row), 1+i), w)
			}
			h.row = append(h.row, slices.Clone(l))
		}
	}
	if err := g.x.Send(part, ch, l); err != want {
		g.t.Fatalf("Send(%d, %d, %x): %d, want %d", part, ch, l, err, want)
	}
	g.same("Send")
	return want
}

// recv takes a message, and holds what comes of it against what should.
func (g *rig) recv(part, ch int) ([]api.Word, api.Errno) {
	g.t.Helper()
	var want []api.Word
	err := g.end(part, ch, false)
	if n, e := g.x.Next(part, ch); err != api.OK && (n != 0 || e != err) {
		g.t.Fatalf("Next(%d, %d): %d, %d, want 0, %d", part, ch, n, e, err)
	}
	if err == api.OK {
		h := g.lines[ch]
		if err = api.ErrAgain; len(h.row) > 0 {
			want, err = h.row[0], api.OK
			h.row, h.first = h.row[1:], (h.first+1)%h.Cap
		}
	}
	l, e := g.x.Recv(part, ch)
	if e != err || !slices.Equal(l, want) || e != api.OK && l != nil {
		g.t.Fatalf("Recv(%d, %d): %x, %d, want %x, %d", part, ch, l, e, want, err)
	}
	g.same("Recv")
	return l, e
}

// message is one of so many words, that no other one is.
func message(n, many int) []api.Word {
	var l []api.Word
	for i := range many {
		l = append(l, api.Word(16*n+i+1)*0x01010101)
	}
	return l
}

// everyChannel goes over all caps and widths, of a channel between two others.
func everyChannel(t *testing.T, try func(g *rig, h *line)) {
	for cap := 1; cap <= 8; cap++ {
		for words := 1; words <= 8; words++ {
			g := rigged(t, joined(3, api.ChanConf{From: 0, To: 2, Cap: 9 - words, Words: cap}, api.ChanConf{From: 2, To: 1, Cap: cap, Words: words}, api.ChanConf{From: 2, To: 1, Cap: words, Words: 9 - cap}), 1)
			// What is in the others shows, if it changes.
			g.send(0, 0, message(90, 1))
			g.send(2, 2, message(91, 1))
			try(g, g.lines[1])
		}
	}
}

// widest is the configuration that has most of everything.
func widest() api.Config {
	c := api.Config{}
	for i := range 8 {
		c.Parts = append(c.Parts, api.PartConf{Quota: 119, Slots: 8})
		c.Windows = append(c.Windows, api.Window{Part: 7 - i, Ticks: 255})
	}
	for i := range 16 {
		c.Chans = append(c.Chans, api.ChanConf{From: i % 8, To: (i + 1 + i/8) % 8, Cap: 8, Words: 8})
	}
	c.Parts[7].Quota = 1024 - 7*119 - 8*3 - 16*3
	return c
}

func TestExamples(t *testing.T) { // P20.1, P20.2, P20.3
	c := joined(2, api.ChanConf{From: 0, To: 1, Cap: 2, Words: 3})
	m, _ := mem.New(conf.Frames(c))
	x, err := chans.New(m, c)
	if x == nil || err != api.OK {
		t.Fatalf("New: %v, %d", x, err)
	}
	if err := x.Send(0, 0, []api.Word{7, 8}); err != api.OK {
		t.Errorf("Send(0, 0, 7 8): %d", err)
	}
	if err := x.Send(1, 0, []api.Word{7}); err != api.ErrPerm {
		t.Errorf("Send(1, 0, 7): %d", err)
	}
	if n, err := x.Next(1, 0); n != 2 || err != api.OK {
		t.Errorf("Next(1, 0): %d, %d", n, err)
	}
	if l, err := x.Recv(1, 0); !slices.Equal(l, []api.Word{7, 8}) || err != api.OK {
		t.Errorf("Recv(1, 0): %d, %d", l, err)
	}
	if l, err := x.Recv(1, 0); l != nil || err != api.ErrAgain {
		t.Errorf("Recv(1, 0): %d, %d", l, err)
	}
	if err := x.Send(0, 1, []api.Word{7}); err != api.ErrNone {
		t.Errorf("Send(0, 1, 7): %d", err)
	}
}

func TestNewNoMemory(t *testing.T) { // P20.1: ErrNil ahead of all
	refused, _ := mem.New(0)
	great := joined(8)
	for i := range great.Parts {
		great.Parts[i].Quota = 256
	}
	for _, m := range []*mem.Mem{nil, {}, refused} {
		for _, c := range []api.Config{{}, joined(1), joined(2, api.ChanConf{From: 0, To: 1, Cap: 1, Words: 1}), joined(9), great, widest()} {
			if x, err := chans.New(m, c); x != nil || err != api.ErrNil {
				t.Errorf("New: %v, %d", x, err)
			}
		}
	}
}

func TestNewOff(t *testing.T) { // P20.1: layer 6's error, ahead of that of the memory
	good := api.ChanConf{From: 0, To: 1, Cap: 8, Words: 8}
	wrong := []api.Config{{}, joined(0), joined(9), joined(2, slices.Repeat([]api.ChanConf{good}, 17)...)}
	for _, n := range append([]int{-1, 0, 9}, off...) {
		wrong = append(wrong, joined(2, good, api.ChanConf{From: 0, To: 1, Cap: n, Words: 1}), joined(2, api.ChanConf{From: 0, To: 1, Cap: 1, Words: n}, good))
	}
	for _, n := range append([]int{-1, 2, 8}, off...) {
		wrong = append(wrong, joined(2, good, api.ChanConf{From: n, To: 1, Cap: 1, Words: 1}), joined(2, api.ChanConf{From: 0, To: n, Cap: 1, Words: 1}, good))
	}
	for n := range 2 {
		wrong = append(wrong, joined(2, good, api.ChanConf{From: n, To: n, Cap: 1, Words: 1}))
	}
	less := joined(2, good)
	less.Parts[1].Quota = 3
	unseen := joined(2, good)
	unseen.Windows = unseen.Windows[:1]
	wrong = append(wrong, less, unseen)
	great := widest()
	great.Parts[0].Quota++
	for _, frames := range []int{1, 7, 1024} {
		for i, c := range wrong {
			m := filled(t, frames)
			if x, err := chans.New(m, c); x != nil || err != api.ErrArg {
				t.Errorf("New of %d frames, wrong by %d: %v, %d", frames, i, x, err)
			}
			sameMemory(t, m)
		}
		m := filled(t, frames)
		if x, err := chans.New(m, great); x != nil || err != api.ErrFull {
			t.Errorf("New of %d frames: %v, %d, want ErrFull", frames, x, err)
		}
		sameMemory(t, m)
	}
}

// sameMemory says what is wrong, if a memory is not as it was filled.
func sameMemory(t *testing.T, m *mem.Mem) {
	t.Helper()
	for f := range m.Frames() {
		if p, _ := m.Page(f); page(p) != strange(f) {
			t.Fatalf("the frame %d of %d is changed", f, m.Frames())
		}
	}
}

func TestNewFrames(t *testing.T) { // P20.1: a memory of fewer frames than the configuration's
	for _, c := range []api.Config{joined(1), joined(2), joined(2, api.ChanConf{From: 0, To: 1, Cap: 1, Words: 1}), joined(2, api.ChanConf{From: 1, To: 0, Cap: 4, Words: 7}, api.ChanConf{From: 1, To: 0, Cap: 5, Words: 6}), joined(8, slices.Repeat([]api.ChanConf{{From: 3, To: 5, Cap: 8, Words: 8}}, 16)...), widest()} {
		need := conf.Frames(c)
		for _, frames := range []int{1, need / 2, need - len(c.Chans) - 1, need - 1, need, need + 1, 1024} {
			if frames > 1024 {
				continue
			}
			x, err := chans.New(filled(t, frames), c)
			if frames < need && (x != nil || err != api.ErrArg) || frames >= need && (x == nil || err != api.OK) {
				t.Errorf("New of %d frames, of %d: %v, %d", frames, need, x, err)
			}
		}
	}
}

func TestNoChans(t *testing.T) { // P20.1, P20.2, P20.3: ErrNil ahead of all
	refused, _ := chans.New(nil, joined(1))
	for _, x := range []*chans.Chans{nil, {}, refused} {
		for _, part := range append([]int{0, 1, 7}, off...) {
			for _, ch := range append([]int{0, 1, 15}, off...) {
				if x.May(part, ch, true) != api.ErrNil || x.May(part, ch, false) != api.ErrNil {
					t.Errorf("May(%d, %d)", part, ch)
				}
				for _, many := range []int{0, 1, 8, 9} {
					if err := x.Send(part, ch, message(1, many)); err != api.ErrNil {
						t.Errorf("Send(%d, %d): %d", part, ch, err)
					}
				}
				if l, err := x.Recv(part, ch); l != nil || err != api.ErrNil {
					t.Errorf("Recv(%d, %d): %v, %d", part, ch, l, err)
				}
				if n, err := x.Next(part, ch); n != 0 || err != api.ErrNil {
					t.Errorf("Next(%d, %d): %d, %d", part, ch, n, err)
				}
				if x.Words(ch) != 0 || x.Room(ch) != 0 {
					t.Errorf("Words(%d), Room", ch)
				}
			}
		}
	}
}

func TestNoChannel(t *testing.T) { // P20.1, P20.2, P20.3: ErrNone ahead of ErrPerm and ErrArg
	good := api.ChanConf{From: 0, To: 1, Cap: 8, Words: 8}
	for many := range 17 {
		g := rigged(t, joined(2, slices.Repeat([]api.ChanConf{good}, many)...), 0)
		for _, ch := range append([]int{many, many + 1, 16, -many, many - 256, many - 1 + 1<<32}, off...) {
			if ch >= 0 && ch < many {
				continue
			}
			for _, part := range append([]int{0, 1, 2}, off...) {
				for _, send := range []bool{true, false} {
					if err := g.x.May(part, ch, send); err != api.ErrNone {
						t.Errorf("%d channels: May(%d, %d, %v): %d", many, part, ch, send, err)
					}
				}
				for _, words := range []int{0, 1, 9} {
					if err := g.x.Send(part, ch, message(1, words)); err != api.ErrNone {
						t.Errorf("%d channels: Send(%d, %d): %d", many, part, ch, err)
					}
				}
				if l, err := g.x.Recv(part, ch); l != nil || err != api.ErrNone {
					t.Errorf("%d channels: Recv(%d, %d): %v, %d", many, part, ch, l, err)
				}
				if n, err := g.x.Next(part, ch); n != 0 || err != api.ErrNone {
					t.Errorf("%d channels: Next(%d, %d): %d, %d", many, part, ch, n, err)
				}
			}
			if g.x.Words(ch) != 0 || g.x.Room(ch) != 0 {
				t.Errorf("%d channels: Words(%d) %d, Room %d", many, ch, g.x.Words(ch), g.x.Room(ch))
			}
		}
		g.same("no channel")
	}
}

func TestMay(t *testing.T) { // P20.1: all ends, of all partitions
	for from := range 8 {
		for to := range 8 {
			if from == to {
				continue
			}
			// The one ahead goes the other way: what holds of one end does not of the other.
			g := rigged(t, joined(8, api.ChanConf{From: to, To: from, Cap: 2, Words: 2}, api.ChanConf{From: from, To: to, Cap: 1, Words: 3}), 0)
			for ch := range 2 {
				for _, part := range append([]int{0, 1, 2, 3, 4, 5, 6, 7, 8, 9, from + 1<<32, to + 1<<32, from - 256, to - 256, ^from, ^to}, off...) {
					for _, send := range []bool{true, false} {
						if err := g.x.May(part, ch, send); err != g.end(part, ch, send) {
							t.Errorf("from %d to %d: May(%d, %d, %v): %d", from, to, part, ch, send, err)
						}
					}
				}
			}
			g.same("May")
		}
	}
}

func TestMayHoldsOn(t *testing.T) { // P20.1: May asks neither for room nor for messages
	everyChannel(t, func(g *rig, h *line) {
		for i := range h.Cap + 1 {
			if g.x.May(2, 1, true) != api.OK || g.x.May(1, 1, false) != api.OK || g.x.May(1, 1, true) != api.ErrPerm || g.x.May(2, 1, false) != api.ErrPerm {
				t.Fatalf("%v: May, with %d messages", h.ChanConf, i)
			}
			g.send(2, 1, message(i, 1))
		}
	})
}

func TestEmpty(t *testing.T) { // P20.1, P20.3
	everyChannel(t, func(g *rig, h *line) {
		for range 3 {
			if l, err := g.x.Recv(1, 1); l != nil || err != api.ErrAgain {
				t.Errorf("Recv: %v, %d", l, err)
			}
			if n, err := g.x.Next(1, 1); n != 0 || err != api.ErrAgain {
				t.Errorf("Next: %d, %d", n, err)
			}
			if g.x.Room(1) != h.Cap || g.x.Words(1) != h.Words {
				t.Errorf("Room %d, Words %d", g.x.Room(1), g.x.Words(1))
			}
			g.same("an empty channel")
		}
	})
}

func TestPerm(t *testing.T) { // P20.2, P20.3: ErrPerm ahead of ErrArg and ErrAgain
	everyChannel(t, func(g *rig, h *line) {
		for i := range h.Cap + 1 {
			for _, part := range append([]int{0, 1, 3, 2 + 1<<32, 2 - 256, ^2}, off...) {
				for _, many := range []int{0, 1, h.Words, h.Words + 1, 9} {
					if err := g.x.Send(part, 1, message(i, many)); err != api.ErrPerm {
						t.Fatalf("%v: Send by %d: %d", h.ChanConf, part, err)
					}
				}
			}
			for _, part := range append([]int{0, 2, 3, 1 + 1<<32, 1 - 256, ^1}, off...) {
				if l, err := g.x.Recv(part, 1); l != nil || err != api.ErrPerm {
					t.Fatalf("%v: Recv by %d: %v, %d", h.ChanConf, part, l, err)
				}
				if n, err := g.x.Next(part, 1); n != 0 || err != api.ErrPerm {
					t.Fatalf("%v: Next by %d: %d, %d", h.ChanConf, part, n, err)
				}
			}
			g.same("another one's end")
			g.send(2, 1, message(i, h.Words))
		}
	})
}

func TestSendOff(t *testing.T) { // P20.2: ErrArg ahead of ErrAgain
	everyChannel(t, func(g *rig, h *line) {
		for i := range h.Cap + 1 {
			for _, many := range append([]int{h.Words + 1, h.Words + 2}, offMany...) {
				if err := g.x.Send(2, 1, make([]api.Word, many)); err != api.ErrArg {
					t.Fatalf("%v: Send of %d words: %d", h.ChanConf, many, err)
				}
			}
			if err := g.x.Send(2, 1, nil); err != api.ErrArg {
				t.Fatalf("%v: Send of none: %d", h.ChanConf, err)
			}
			g.same("Send")
			g.send(2, 1, message(i, h.Words))
		}
	})
}

func TestFull(t *testing.T) { // P20.2
	everyChannel(t, func(g *rig, h *line) {
		for i := range h.Cap {
			if err := g.send(2, 1, message(i, i%h.Words+1)); err != api.OK {
				t.Errorf("Send: %d", err)
			}
		}
		for many := 1; many <= h.Words; many++ {
			if err := g.send(2, 1, message(9, many)); err != api.ErrAgain {
				t.Errorf("Send of %d words: %d", many, err)
			}
		}
		g.recv(1, 1)
		if err := g.send(2, 1, message(9, h.Words)); err != api.OK {
			t.Errorf("Send: %d", err)
		}
		if err := g.send(2, 1, message(10, 1)); err != api.ErrAgain {
			t.Errorf("Send: %d", err)
		}
	})
}

func TestGoesRound(t *testing.T) { // P20.2, P20.3, P20.4: from each place on, with each number of messages, of each length
	everyChannel(t, func(g *rig, h *line) {
		n := 0
		for range h.Cap + 1 {
			for many := 1; many <= h.Cap; many++ {
				for range many {
					n++
					g.send(2, 1, message(n, n%h.Words+1))
				}
				for range many {
					g.recv(1, 1)
				}
			}
			n++
			g.send(2, 1, message(n, h.Words))
			g.recv(1, 1)
		}
	})
}

func TestWordsOfAllBits(t *testing.T) { // P20.2, P20.3
	g := rigged(t, joined(2, api.ChanConf{From: 0, To: 1, Cap: 7, Words: 8}), 0)
	for many := 1; many <= 8; many++ {
		for bit := range 33 {
			for _, w := range []api.Word{api.Word(uint64(1) << bit), api.Word(uint64(1)<<bit - 1)} {
				g.send(0, 0, slices.Repeat([]api.Word{w}, many))
				g.recv(1, 0)
			}
		}
	}
}

func TestOtherChannels(t *testing.T) { // P20.4: all of a full kernel's, one beside the other
	g := rigged(t, widest(), 0)
	n := 0
	for round := range 5 {
		for ch, h := range g.lines {
			for range (ch+3*round)%h.Cap + 1 {
				n++
				g.send(h.From, ch, message(n, n%h.Words+1))
			}
		}
		for ch := range g.lines {
			h := g.lines[15-ch]
			for range (ch+5*round)%h.Cap + 1 {
				g.recv(h.To, 15-ch)
			}
		}
	}
	for ch, h := range g.lines {
		for range h.Cap + 1 {
			g.recv(h.To, ch)
		}
	}
}

func TestSameEnds(t *testing.T) { // P20.4: channels that are like each other are two
	like := api.ChanConf{From: 0, To: 1, Cap: 2, Words: 2}
	g := rigged(t, joined(2, like, like, api.ChanConf{From: 1, To: 0, Cap: 2, Words: 2}), 0)
	g.send(0, 1, message(1, 2))
	g.send(1, 2, message(2, 1))
	if _, err := g.recv(1, 0); err != api.ErrAgain {
		t.Errorf("Recv: %d", err)
	}
	g.send(0, 0, message(3, 1))
	g.recv(1, 1)
	g.recv(0, 2)
	g.recv(1, 0)
}

// rows goes over all rows of so many steps, of so many kinds.
func rows(steps, kinds int, try func(row []int)) {
	row := make([]int, steps)
	for {
		try(row)
		i := 0
		for i < steps && row[i] == kinds-1 {
			row[i] = 0
			i++
		}
		if i == steps {
			return
		}
		row[i]++
	}
}

func TestAllRows(t *testing.T) { // P20.2, P20.3, P20.4
	c := joined(2, api.ChanConf{From: 0, To: 1, Cap: 2, Words: 1}, api.ChanConf{From: 1, To: 0, Cap: 1, Words: 2})
	rows(6, 5, func(row []int) {
		g := rigged(t, c, 0)
		for i, step := range row {
			switch step {
			case 0:
				g.send(0, 0, message(i, 1))
			case 1:
				g.recv(1, 0)
			case 2:
				g.send(1, 1, message(i, 2))
			case 3:
				g.recv(0, 1)
			case 4:
				g.send(1, 1, message(i, 1+i%3))
			}
		}
	})
}

// somehow is a configuration of so many channels.
func somehow(r *random, parts, many int) api.Config {
	var l []api.ChanConf
	for range many {
		from := r.below(parts)
		l = append(l, api.ChanConf{From: from, To: (from + 1 + r.below(parts-1)) % parts, Cap: 1 + r.below(8), Words: 1 + r.below(8)})
	}
	return joined(parts, l...)
}

func TestModel(t *testing.T) { // P20.1, P20.2, P20.3, P20.4
	for many := 1; many <= 16; many++ {
		r := random(many)
		c := somehow(&r, 2+many%7, many)
		g := rigged(t, c, many%3)
		for i := range 500 {
			ch := r.below(many+1) - many%2
			part := r.below(len(c.Parts))
			// Most are asked of those who may. Long stretches of more sending than taking, and the other way round.
			send := r.below(8) < 5-2*(i/60%2)
			if r.below(8) > 0 && ch >= 0 && ch < many {
				part = g.lines[ch].To
				if send {
					part = g.lines[ch].From
				}
			}
			if !send {
				g.recv(part, ch)
				continue
			}
			var l []api.Word
			for range r.below(9) + r.below(2) {
				l = append(l, api.Word(r.below(1<<24))<<8|api.Word(r.below(256)))
			}
			g.send(part, ch, l)
		}
	}
}

func TestLengthsThatMayNotBe(t *testing.T) { // P20.3: whoever has the memory may change what is kept
	everyChannel(t, func(g *rig, h *line) {
		lengths := slices.Clone(offLengths)
		for n := h.Words + 1; n <= 16; n++ {
			lengths = append(lengths, api.Word(n))
		}
		for _, length := range lengths {
			g.send(2, 1, message(1, 1))
			at := h.at(0, 0)
			g.m.Write(at/32, at%32, length)
			if n, err := g.x.Next(1, 1); n != h.Words || err != api.OK {
				t.Fatalf("%v: length %d: Next %d, %d", h.ChanConf, length, n, err)
			}
			var want []api.Word
			for i := range h.Words {
				at := h.at(0, 1+i)
				want = append(want, g.want[at/32][at%32])
			}
			if l, err := g.x.Recv(1, 1); !slices.Equal(l, want) || err != api.OK {
				t.Fatalf("%v: length %d: Recv %x, %d, want %x", h.ChanConf, length, l, err, want)
			}
			g.m.Write(at/32, at%32, 1)
			h.row, h.first = nil, (h.first+1)%h.Cap
			g.same("Recv")
		}
	})
}

func TestWordsThatChange(t *testing.T) { // P20.2, P20.3: the words are in the memory, and nowhere else
	everyChannel(t, func(g *rig, h *line) {
		for i := range h.Cap {
			g.send(2, 1, message(i, h.Words))
		}
		for k := range h.Cap {
			for i := range h.Words {
				at := h.at(k, 1+i)
				w := ^g.want[at/32][at%32]
				g.m.Write(at/32, at%32, w)
				g.set(at, w)
				h.row[k][i] = w
			}
		}
		for range h.Cap {
			g.recv(1, 1)
		}
	})
}

func TestHandedIn(t *testing.T) { // P20.1, P20.2: what is handed in isn't changed, nor kept
	c := joined(2, api.ChanConf{From: 0, To: 1, Cap: 4, Words: 8}, api.ChanConf{From: 1, To: 0, Cap: 1, Words: 1})
	parts, windows := slices.Clone(c.Parts), slices.Clone(c.Windows)
	list := slices.Clone(c.Chans)
	g := rigged(t, c, 0)
	room := message(3, 16)
	for i := range 4 {
		g.send(0, 0, room[:2*i+1])
		if !slices.Equal(room, message(3, 16)) {
			t.Fatalf("Send changes what it is handed: %x", room)
		}
	}
	if !slices.Equal(c.Parts, parts) || !slices.Equal(c.Windows, windows) || !slices.Equal(c.Chans, list) {
		t.Fatalf("New changes what it is handed: %v", c)
	}
	for i := range room {
		room[i] = 7
	}
	c.Parts[0], c.Parts[1] = api.PartConf{Quota: 9, Slots: 8}, api.PartConf{}
	c.Chans[0], c.Chans[1] = api.ChanConf{From: 1, To: 0, Cap: 1, Words: 1}, api.ChanConf{}
	g.same("a configuration that changes")
	for range 4 {
		g.recv(1, 0)
	}
	g.send(1, 1, message(1, 1))
	g.recv(0, 1)
}

func TestAnswers(t *testing.T) { // P20.3: answers are new memory
	everyChannel(t, func(g *rig, h *line) {
		var answers [][]api.Word
		for i := range 2 * h.Cap {
			g.send(2, 1, message(i, h.Words))
			l, _ := g.recv(1, 1)
			for _, other := range answers {
				for k := range other {
					other[k] = 99
				}
			}
			if !slices.Equal(l, message(i, h.Words)) {
				t.Fatalf("%v: Recv %x changes with other answers", h.ChanConf, l)
			}
			// What is appended to an answer is in nobody's way.
			answers = append(answers, l, append(l, 5, 6))
			g.same("answers that are changed")
		}
	})
}

func TestChansOfTheirOwn(t *testing.T) { // P20.4: those of two memories don't feel each other
	c := joined(2, api.ChanConf{From: 0, To: 1, Cap: 2, Words: 3}, api.ChanConf{From: 1, To: 0, Cap: 1, Words: 2})
	a, b := rigged(t, c, 0), rigged(t, c, 2)
	r := random(5)
	for i := range 400 {
		g, other := a, b
		if r.below(2) == 0 {
			g, other = b, a
		}
		ch := r.below(2)
		if r.below(2) == 0 {
			g.send(ch, ch, message(i, 1+r.below(3)))
		} else {
			g.recv(1-ch, ch)
		}
		other.same("another one's call")
	}
}
