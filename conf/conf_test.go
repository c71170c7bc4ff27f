package conf_test

import (
	"math"
	"slices"
	"strings"
	"testing"

	"priory/api"
	"priory/conf"
)

// far are numbers that nothing in a configuration may be. Some of them go round when they are added to, multiplied, or cut to fewer bits.
var far = []int{math.MinInt, math.MinInt + 1, -1 << 62, -1 << 32, -1<<32 + 1, -1 << 31, -65536, -256, -255, -2, -1, 257, 258, 259, 260, 261, 511, 512, 513, 65536, 65537, 65540, math.MaxInt32, 1 << 32, 1<<32 + 1, 1<<32 + 4, 1 << 61, 1<<61 + 4, math.MaxInt - 1, math.MaxInt}

// random is a row of numbers that is always the same.
type random uint32

// below tells the next number, which is below n.
func (r *random) below(n int) int {
	*r = *r*1664525 + 1013904223
	return int(*r>>8) % n
}

// from tells the next number from one to another.
func (r *random) from(least, most int) int { return least + r.below(most-least+1) }

// pair is the numbers of a partition or a window, four those of a channel, in their order.
type (
	pair [2]int
	four [4]int
)

func partsOf(rows ...pair) []api.PartConf {
	var l []api.PartConf
	for _, r := range rows {
		l = append(l, api.PartConf{Quota: r[0], Slots: r[1]})
	}
	return l
}

func windowsOf(rows ...pair) []api.Window {
	var l []api.Window
	for _, r := range rows {
		l = append(l, api.Window{Part: r[0], Ticks: r[1]})
	}
	return l
}

func chansOf(rows ...four) []api.ChanConf {
	var l []api.ChanConf
	for _, r := range rows {
		l = append(l, api.ChanConf{From: r[0], To: r[1], Cap: r[2], Words: r[3]})
	}
	return l
}

// least is the configuration of the chapter's example.
func least() api.Config {
	return api.Config{Parts: partsOf(pair{4, 1}), Windows: windowsOf(pair{0, 1})}
}

// leastBytes are its bytes.
const leastBytes = "PR1\x01\x00\x04\x01\x01\x00\x01\x00"

// some is a configuration that has more than one of each list.
func some() api.Config {
	return api.Config{
		Parts:   partsOf(pair{9, 1}, pair{256, 8}, pair{10, 4}),
		Windows: windowsOf(pair{1, 255}, pair{0, 2}, pair{2, 1}, pair{0, 3}),
		Chans:   chansOf(four{0, 1, 2, 3}, four{2, 0, 8, 8}, four{0, 1, 1, 1}),
	}
}

// someBytes are its bytes.
const someBytes = "PR1" +
	"\x03" + "\x00\x09\x01" + "\x01\x00\x08" + "\x00\x0a\x04" +
	"\x04" + "\x01\xff" + "\x00\x02" + "\x02\x01" + "\x00\x03" +
	"\x03" + "\x00\x01\x02\x03" + "\x02\x00\x08\x08" + "\x00\x01\x01\x01"

// someFrames are its frames: of the partitions 9 and 1, 256 and 3, 10 and 2, of the channels 1 (8 words), 3 (72), 1 (2).
const someFrames = 286

// clone copies a configuration, so that nothing is shared.
func clone(c api.Config) api.Config {
	return api.Config{Parts: slices.Clone(c.Parts), Windows: slices.Clone(c.Windows), Chans: slices.Clone(c.Chans)}
}

// isZero: has a configuration nothing?
func isZero(c api.Config) bool { return len(c.Parts) == 0 && len(c.Windows) == 0 && len(c.Chans) == 0 }

// alike is Same by the document's words, one by one.
func alike(a, b api.Config) bool {
	if len(a.Parts) != len(b.Parts) || len(a.Windows) != len(b.Windows) || len(a.Chans) != len(b.Chans) {
		return false
	}
	for i, p := range a.Parts {
		if p.Quota != b.Parts[i].Quota || p.Slots != b.Parts[i].Slots {
			return false
		}
	}
	for i, w := range a.Windows {
		if w.Part != b.Windows[i].Part || w.Ticks != b.Windows[i].Ticks {
			return false
		}
	}
	for i, h := range a.Chans {
		g := b.Chans[i]
		if h.From != g.From || h.To != g.To || h.Cap != g.Cap || h.Words != g.Words {
			return false
		}
	}
	return true
}

// mayBe is the document's rule, but for the frames.
func mayBe(c api.Config) bool {
	if len(c.Parts) < 1 || len(c.Parts) > 8 || len(c.Windows) < 1 || len(c.Windows) > 32 || len(c.Chans) > 16 {
		return false
	}
	for _, p := range c.Parts {
		if p.Quota < 4 || p.Quota > 256 || p.Slots < 1 || p.Slots > 8 {
			return false
		}
	}
	has := map[int]int{}
	for _, w := range c.Windows {
		if w.Part < 0 || w.Part >= len(c.Parts) || w.Ticks < 1 || w.Ticks > 255 {
			return false
		}
		has[w.Part]++
	}
	for _, h := range c.Chans {
		switch {
		case h.From < 0 || h.From >= len(c.Parts), h.To < 0 || h.To >= len(c.Parts), h.From == h.To:
			return false
		case h.Cap < 1 || h.Cap > 8, h.Words < 1 || h.Words > 8:
			return false
		}
	}
	return len(has) == len(c.Parts)
}

// framesOf counts the frames of one that may be, but for these, one by one.
func framesOf(c api.Config) int {
	n := 0
	for _, p := range c.Parts {
		n += p.Quota
		for slots := p.Slots; slots > 0; slots -= 3 {
			n++
		}
	}
	for _, h := range c.Chans {
		words := 0
		for range h.Cap {
			words += 1 + h.Words
		}
		for ; words > 0; words -= 32 {
			n++
		}
	}
	return n
}

// bytesOf is the bytes of one whose numbers fit.
func bytesOf(c api.Config) string {
	l := []byte{80, 82, 49, byte(len(c.Parts))}
	for _, p := range c.Parts {
		l = append(l, byte(p.Quota/256), byte(p.Quota%256), byte(p.Slots))
	}
	l = append(l, byte(len(c.Windows)))
	for _, w := range c.Windows {
		l = append(l, byte(w.Part), byte(w.Ticks))
	}
	l = append(l, byte(len(c.Chans)))
	for _, h := range c.Chans {
		l = append(l, byte(h.From), byte(h.To), byte(h.Cap), byte(h.Words))
	}
	return string(l)
}

// want tells what Check should answer, and Frames.
func want(c api.Config) (api.Errno, int) {
	if !mayBe(c) {
		return api.ErrArg, 0
	}
	n := framesOf(c)
	if n > 1024 {
		return api.ErrFull, n
	}
	return api.OK, n
}

// asked holds Check, Frames and Put of a configuration against the model, and Get of its bytes, if its numbers fit these.
func asked(t *testing.T, c api.Config) {
	t.Helper()
	before := clone(c)
	wantErr, wantFrames := want(c)
	if err := conf.Check(c); err != wantErr {
		t.Fatalf("Check(%v): %d, want %d", c, err, wantErr)
	}
	if n := conf.Frames(c); n != wantFrames {
		t.Fatalf("Frames(%v): %d, want %d", c, n, wantFrames)
	}
	wantBytes := ""
	if wantErr == api.OK {
		wantBytes = bytesOf(c)
	}
	if s, err := conf.Put(c); s != wantBytes || err != wantErr {
		t.Fatalf("Put(%v): %q %d, want %q %d", c, s, err, wantBytes, wantErr)
	}
	if !alike(c, before) {
		t.Fatalf("%v is now %v", before, c)
	}
	if fits(c) {
		got(t, bytesOf(c), c)
	}
}

// fits: can the numbers of a configuration stand in bytes?
func fits(c api.Config) bool {
	is := func(n, most int) bool { return n >= 0 && n <= most }
	for _, p := range c.Parts {
		if !is(p.Quota, 65535) || !is(p.Slots, 255) {
			return false
		}
	}
	for _, w := range c.Windows {
		if !is(w.Part, 255) || !is(w.Ticks, 255) {
			return false
		}
	}
	for _, h := range c.Chans {
		if !is(h.From, 255) || !is(h.To, 255) || !is(h.Cap, 255) || !is(h.Words, 255) {
			return false
		}
	}
	return is(len(c.Parts), 255) && is(len(c.Windows), 255) && is(len(c.Chans), 255)
}

// got holds Get of the bytes of a configuration against the model.
func got(t *testing.T, s string, c api.Config) {
	t.Helper()
	wantErr, _ := want(c)
	back, err := conf.Get(s)
	if err != wantErr {
		t.Fatalf("Get(%q): %d, want %d", s, err, wantErr)
	}
	if err == api.OK && !alike(back, c) || err != api.OK && !isZero(back) {
		t.Fatalf("Get(%q): %v %d, want %v", s, back, err, c)
	}
}

// refused is that bytes are no configuration's.
func refused(t *testing.T, s string) {
	t.Helper()
	if c, err := conf.Get(s); err != api.ErrForm || !isZero(c) {
		t.Fatalf("Get(%q): %v %d, want ErrForm", s, c, err)
	}
}

// many makes a configuration of so many of each list, all of them the least ones.
func many(parts, windows, chans int) api.Config {
	var c api.Config
	for range parts {
		c.Parts = append(c.Parts, api.PartConf{Quota: 4, Slots: 1})
	}
	for i := range windows {
		c.Windows = append(c.Windows, api.Window{Part: i % max(parts, 1), Ticks: 1})
	}
	for i := range chans {
		c.Chans = append(c.Chans, api.ChanConf{From: i % max(parts, 1), To: (i + 1) % max(parts, 1), Cap: 1, Words: 1})
	}
	return c
}

// anyone makes a configuration that may be, but perhaps for its frames.
func anyone(r *random) api.Config {
	c := many(r.from(1, 8), 0, 0)
	quotas := []pair{{4, 16}, {4, 256}, {170, 256}}[r.below(3)]
	for i := range c.Parts {
		c.Parts[i] = api.PartConf{Quota: r.from(quotas[0], quotas[1]), Slots: r.from(1, 8)}
		c.Windows = append(c.Windows, api.Window{Part: i, Ticks: r.from(1, 255)})
	}
	for range r.below(25) {
		c.Windows = slices.Insert(c.Windows, r.below(len(c.Windows)+1), api.Window{Part: r.below(len(c.Parts)), Ticks: r.from(1, 255)})
	}
	if len(c.Parts) == 1 {
		return c
	}
	for range r.below(17) {
		from := r.below(len(c.Parts))
		to := (from + r.from(1, len(c.Parts)-1)) % len(c.Parts)
		c.Chans = append(c.Chans, api.ChanConf{From: from, To: to, Cap: r.from(1, 8), Words: r.from(1, 8)})
	}
	return c
}

// numbers are places of all the numbers of a configuration.
func numbers(c api.Config) []*int {
	var l []*int
	for i := range c.Parts {
		l = append(l, &c.Parts[i].Quota, &c.Parts[i].Slots)
	}
	for i := range c.Windows {
		l = append(l, &c.Windows[i].Part, &c.Windows[i].Ticks)
	}
	for i := range c.Chans {
		l = append(l, &c.Chans[i].From, &c.Chans[i].To, &c.Chans[i].Cap, &c.Chans[i].Words)
	}
	return l
}

func TestCheckByHand(t *testing.T) { // P6.1
	two := partsOf(pair{4, 1}, pair{4, 1})
	turns := windowsOf(pair{0, 1}, pair{1, 1})
	for _, x := range []struct {
		name   string
		c      api.Config
		err    api.Errno
		frames int
	}{
		{"nothing", api.Config{}, api.ErrArg, 0},
		{"the least", least(), api.OK, 5},
		{"some", some(), api.OK, someFrames},
		{"no windows", api.Config{Parts: two}, api.ErrArg, 0},
		{"no partitions", api.Config{Windows: turns}, api.ErrArg, 0},
		{"only channels", api.Config{Chans: chansOf(four{0, 1, 1, 1})}, api.ErrArg, 0},
		{"two", api.Config{Parts: two, Windows: turns}, api.OK, 10},
		{"a window backwards", api.Config{Parts: two, Windows: windowsOf(pair{1, 1}, pair{0, 1})}, api.OK, 10},
		{"a partition with two windows", api.Config{Parts: two, Windows: windowsOf(pair{1, 1}, pair{0, 1}, pair{1, 1})}, api.OK, 10},
		{"the last has no window", api.Config{Parts: two, Windows: windowsOf(pair{0, 1}, pair{0, 1})}, api.ErrArg, 0},
		{"the first has no window", api.Config{Parts: two, Windows: windowsOf(pair{1, 1}, pair{1, 1})}, api.ErrArg, 0},
		{"too few windows", api.Config{Parts: two, Windows: turns[:1]}, api.ErrArg, 0},
		{"a window of nobody", api.Config{Parts: two, Windows: windowsOf(pair{0, 1}, pair{1, 1}, pair{2, 1})}, api.ErrArg, 0},
		{"a window of no ticks", api.Config{Parts: two, Windows: windowsOf(pair{0, 1}, pair{1, 0})}, api.ErrArg, 0},
		{"a channel", api.Config{Parts: two, Windows: turns, Chans: chansOf(four{0, 1, 1, 1})}, api.OK, 11},
		{"a channel twice", api.Config{Parts: two, Windows: turns, Chans: chansOf(four{1, 0, 1, 1}, four{1, 0, 1, 1})}, api.OK, 12},
		{"to itself", api.Config{Parts: two, Windows: turns, Chans: chansOf(four{1, 1, 1, 1})}, api.ErrArg, 0},
		{"to nobody", api.Config{Parts: two, Windows: turns, Chans: chansOf(four{0, 2, 1, 1})}, api.ErrArg, 0},
		{"from nobody", api.Config{Parts: two, Windows: turns, Chans: chansOf(four{2, 0, 1, 1})}, api.ErrArg, 0},
		{"nobody to nobody", api.Config{Parts: two, Windows: turns, Chans: chansOf(four{2, 3, 1, 1})}, api.ErrArg, 0},
	} {
		if err := conf.Check(x.c); err != x.err {
			t.Errorf("%s: Check: %d, want %d", x.name, err, x.err)
		}
		if n := conf.Frames(x.c); n != x.frames {
			t.Errorf("%s: Frames: %d, want %d", x.name, n, x.frames)
		}
		asked(t, x.c)
	}
}

func TestCheckOfHowMany(t *testing.T) { // P6.1
	for parts := range 12 {
		for windows := range 37 {
			asked(t, many(parts, windows, 0))
			asked(t, many(parts, windows, 1))
		}
		for chans := range 21 {
			asked(t, many(parts, max(parts, 1), chans))
		}
	}
	for _, n := range []int{254, 255, 256, 257, 264, 288, 65536, 65537} {
		asked(t, many(n, 8, 0))
		asked(t, many(8, n, 0))
		asked(t, many(8, 8, n))
		asked(t, many(n, n, n))
	}
}

func TestCheckOfNumbers(t *testing.T) { // P6.1
	edges := slices.Clone(far)
	for n := -1; n <= 10; n++ {
		edges = append(edges, n)
	}
	edges = append(edges, 254, 255, 256, 257)
	for _, from := range []func() api.Config{least, some, func() api.Config { return many(8, 32, 16) }} {
		for i := range numbers(from()) {
			for _, n := range edges {
				c := from()
				*numbers(c)[i] = n
				asked(t, c)
			}
		}
	}
}

func TestCheckOfTwoNumbers(t *testing.T) { // P6.1
	// Where two are off, one of them does not make up for the other.
	edges := []int{math.MinInt, -256, -1, 0, 1, 2, 3, 4, 8, 9, 255, 256, 257, 1 << 32, math.MaxInt}
	for i := range numbers(some()) {
		for j := range i {
			for _, n := range edges {
				for _, m := range edges {
					c := some()
					*numbers(c)[i] = n
					*numbers(c)[j] = m
					asked(t, c)
				}
			}
		}
	}
}

func TestFramesOfSlots(t *testing.T) { // P6.1
	for slots, traps := range [9]int{1: 1, 2: 1, 3: 1, 4: 2, 5: 2, 6: 2, 7: 3, 8: 3} {
		if slots == 0 {
			continue
		}
		c := least()
		c.Parts[0] = api.PartConf{Quota: 7, Slots: slots}
		if n := conf.Frames(c); n != 7+traps {
			t.Errorf("%d slots: %d frames, want %d", slots, n, 7+traps)
		}
	}
}

func TestFramesOfChannels(t *testing.T) { // P6.1
	for _, x := range []struct{ cap, words, frames int }{
		{1, 1, 1}, {1, 8, 1}, {2, 8, 1}, {3, 8, 1}, {4, 8, 2}, {7, 8, 2}, {8, 8, 3},
		{4, 7, 1}, {5, 7, 2}, {8, 7, 2}, {8, 3, 1}, {8, 4, 2}, {8, 1, 1}, {5, 5, 1}, {6, 5, 2}, {7, 4, 2},
	} {
		c := many(2, 2, 1)
		c.Chans[0].Cap, c.Chans[0].Words = x.cap, x.words
		if n := conf.Frames(c); n != 10+x.frames {
			t.Errorf("Cap %d, Words %d: %d frames, want %d", x.cap, x.words, n-10, x.frames)
		}
	}
	for messages := 1; messages <= 8; messages++ {
		for words := 1; words <= 8; words++ {
			c := many(2, 2, 2)
			c.Chans[1].Cap, c.Chans[1].Words = messages, words
			asked(t, c)
		}
	}
}

// filled takes just 1024 frames: 768 and 249 of the partitions, 4 of their traps, 3 of the channel.
func filled() api.Config {
	c := many(4, 4, 1)
	for i, quota := range []int{256, 249, 256, 256} {
		c.Parts[i].Quota = quota
	}
	c.Chans[0].Cap, c.Chans[0].Words = 8, 8
	return c
}

func TestTooManyFrames(t *testing.T) { // P6.1
	c := filled()
	if err := conf.Check(c); err != api.OK || conf.Frames(c) != 1024 {
		t.Fatalf("Check: %d, Frames: %d, want 1024", err, conf.Frames(c))
	}
	asked(t, c)
	// Each of these takes just one frame more.
	for _, more := range []func(c *api.Config){
		func(c *api.Config) { c.Parts[1].Quota++ },
		func(c *api.Config) { c.Parts[3].Slots = 4 },
		func(c *api.Config) { c.Chans = append(c.Chans, api.ChanConf{From: 3, To: 1, Cap: 1, Words: 1}) },
	} {
		c := filled()
		more(&c)
		if err := conf.Check(c); err != api.ErrFull || conf.Frames(c) != 1025 {
			t.Errorf("Check(%v): %d, Frames: %d, want ErrFull, 1025", c, err, conf.Frames(c))
		}
		asked(t, c)
		// But an argument that may not be goes ahead of that.
		c.Windows[3].Ticks = 0
		if err := conf.Check(c); err != api.ErrArg || conf.Frames(c) != 0 {
			t.Errorf("Check(%v): %d, Frames: %d, want ErrArg, 0", c, err, conf.Frames(c))
		}
		asked(t, c)
	}
	most := many(8, 32, 16)
	for i := range most.Parts {
		most.Parts[i] = api.PartConf{Quota: 256, Slots: 8}
	}
	for i := range most.Chans {
		most.Chans[i].Cap, most.Chans[i].Words = 8, 8
	}
	if err := conf.Check(most); err != api.ErrFull || conf.Frames(most) != 8*259+16*3 {
		t.Errorf("Check of the most: %d, Frames: %d", err, conf.Frames(most))
	}
	asked(t, most)
}

func TestSame(t *testing.T) { // P6.1
	same := func(a, b api.Config, want bool) {
		t.Helper()
		if conf.Same(a, b) != want || conf.Same(b, a) != want {
			t.Fatalf("Same(%v, %v): %v, want %v", a, b, !want, want)
		}
	}
	empty := api.Config{Parts: []api.PartConf{}, Windows: []api.Window{}, Chans: []api.ChanConf{}}
	same(api.Config{}, api.Config{}, true)
	same(api.Config{}, empty, true)
	same(empty, empty, true)
	l := []api.Config{{}, least(), some(), many(8, 32, 16), many(9, 0, 0), many(0, 33, 0), many(1, 0, 17), filled()}
	for i, a := range l {
		for j, b := range l {
			same(a, clone(b), i == j)
		}
	}
	// Of any: each number counts, whatever it is.
	for _, c := range l {
		for i := range numbers(c) {
			for _, n := range append([]int{0, 3, 77, 256}, far...) {
				b := clone(c)
				*numbers(b)[i] = n
				same(c, b, *numbers(c)[i] == n)
				same(b, clone(b), true)
			}
		}
	}
	// One list is the beginning of the other, or has its items in another order.
	c := some()
	same(c, api.Config{Parts: c.Parts[:2], Windows: c.Windows, Chans: c.Chans}, false)
	same(c, api.Config{Parts: c.Parts, Windows: c.Windows[:3], Chans: c.Chans}, false)
	same(c, api.Config{Parts: c.Parts, Windows: c.Windows, Chans: c.Chans[:2]}, false)
	for i := range 3 {
		turned := clone(c)
		switch i {
		case 0:
			slices.Reverse(turned.Parts)
		case 1:
			slices.Reverse(turned.Windows)
		case 2:
			slices.Reverse(turned.Chans)
		}
		same(c, turned, false)
	}
}

func TestPutByHand(t *testing.T) { // P6.2
	for _, x := range []struct {
		c api.Config
		s string
	}{
		{least(), leastBytes},
		{some(), someBytes},
		{filled(), "PR1\x04\x01\x00\x01\x00\xf9\x01\x01\x00\x01\x01\x00\x01\x04\x00\x01\x01\x01\x02\x01\x03\x01\x01\x00\x01\x08\x08"},
	} {
		if s, err := conf.Put(x.c); s != x.s || err != api.OK {
			t.Errorf("Put(%v): %q %d, want %q", x.c, s, err, x.s)
		}
		if c, err := conf.Get(x.s); !alike(c, x.c) || err != api.OK {
			t.Errorf("Get(%q): %v %d, want %v", x.s, c, err, x.c)
		}
	}
}

func TestPutOfWhatMayNotBe(t *testing.T) { // P6.2
	c := filled()
	c.Parts[1].Quota++
	if s, err := conf.Put(c); s != "" || err != api.ErrFull {
		t.Errorf("Put of too many frames: %q %d, want ErrFull", s, err)
	}
	c.Chans[0].To = c.Chans[0].From
	if s, err := conf.Put(c); s != "" || err != api.ErrArg {
		t.Errorf("Put of a channel to itself: %q %d, want ErrArg", s, err)
	}
	if s, err := conf.Put(api.Config{}); s != "" || err != api.ErrArg {
		t.Errorf("Put of nothing: %q %d, want ErrArg", s, err)
	}
}

func TestGetOfNoForm(t *testing.T) { // P6.2
	for _, s := range []string{"", "P", "PR", "PR1", "PR1\x00", "PR1\x00\x00", "PR2" + leastBytes[3:], "pr1" + leastBytes[3:], "PR" + leastBytes[3:], " " + leastBytes, "PR1" + leastBytes, leastBytes[1:], "PR1\xff", "\x00", strings.Repeat("\x00", 11), strings.Repeat("PR1", 1000)} {
		refused(t, s)
	}
	for _, s := range []string{leastBytes, someBytes, bytesOf(filled()), bytesOf(many(8, 32, 16))} {
		for end := range s {
			refused(t, s[:end])
		}
		for b := range 256 {
			refused(t, s+string([]byte{byte(b)}))
		}
		refused(t, s+s)
		for i := range 3 {
			for bit := range 8 {
				l := []byte(s)
				l[i] ^= 1 << bit
				refused(t, string(l))
			}
		}
	}
}

func TestGetOfWhatMayNotBe(t *testing.T) { // P6.2
	for _, x := range []struct {
		name, s string
		err     api.Errno
	}{
		{"nothing", "PR1\x00\x00\x00", api.ErrArg},
		{"the Quota 3", "PR1\x01\x00\x03\x01\x01\x00\x01\x00", api.ErrArg},
		{"the Quota 257", "PR1\x01\x01\x01\x01\x01\x00\x01\x00", api.ErrArg},
		{"the Quota 0x0400", "PR1\x01\x04\x00\x01\x01\x00\x01\x00", api.ErrArg},
		{"no slots", "PR1\x01\x00\x04\x00\x01\x00\x01\x00", api.ErrArg},
		{"nine slots", "PR1\x01\x00\x04\x09\x01\x00\x01\x00", api.ErrArg},
		{"a window of nobody", "PR1\x01\x00\x04\x01\x01\x01\x01\x00", api.ErrArg},
		{"no ticks", "PR1\x01\x00\x04\x01\x01\x00\x00\x00", api.ErrArg},
		{"no windows", "PR1\x01\x00\x04\x01\x00\x00", api.ErrArg},
		{"a channel to itself", "PR1\x01\x00\x04\x01\x01\x00\x01\x01\x00\x00\x01\x01", api.ErrArg},
		{"255 of all, all 0", "PR1\xff" + strings.Repeat("\x00", 765) + "\xff" + strings.Repeat("\x00", 510) + "\xff" + strings.Repeat("\x00", 1020), api.ErrArg},
		{"255 of all, all 255", "PR1\xff" + strings.Repeat("\xff", 765) + "\xff" + strings.Repeat("\xff", 510) + "\xff" + strings.Repeat("\xff", 1020), api.ErrArg},
		{"five of the Quota 256", "PR1\x05" + strings.Repeat("\x01\x00\x01", 5) + "\x05\x00\x01\x01\x01\x02\x01\x03\x01\x04\x01\x00", api.ErrFull},
		{"four of the Quota 256", "PR1\x04" + strings.Repeat("\x01\x00\x01", 4) + "\x04\x00\x01\x01\x01\x02\x01\x03\x01\x00", api.ErrFull},
	} {
		if c, err := conf.Get(x.s); err != x.err || !isZero(c) {
			t.Errorf("%s: %v %d, want %d", x.name, c, err, x.err)
		}
		// What is no configuration's goes ahead of its numbers.
		refused(t, x.s+"\x00")
		refused(t, x.s[:len(x.s)-1])
	}
}

func TestGetOfChangedBytes(t *testing.T) { // P6.2
	// Each byte that is no list's length is a number, which may be anything.
	for _, c := range []api.Config{least(), some(), filled()} {
		for i, p := range numbers(c) {
			most := 255
			if i < 2*len(c.Parts) && i%2 == 0 {
				most = 65535
			}
			was := *p
			for n := 0; n <= most; n += 1 + n/300 {
				*p = n
				got(t, bytesOf(c), c)
			}
			*p = was
		}
	}
}

func TestGetOfAnything(t *testing.T) { // P6.2
	// A configuration's bytes, of which some were changed, taken out or laid between: what Get takes is put as it was.
	r := random(1)
	seen := map[api.Errno]int{}
	for range 30000 {
		l := []byte(bytesOf(anyone(&r)))
		for range r.below(3) {
			i := r.below(len(l))
			switch r.below(4) {
			case 0:
				l[i] = byte(r.below(256))
			case 1:
				l[i] ^= 1 << r.below(8)
			case 2:
				l = append(l[:i], l[i+1:]...)
			case 3:
				l = slices.Insert(l, i, byte(r.below(256)))
			}
		}
		c, err := conf.Get(string(l))
		seen[err]++
		switch {
		case err != api.OK && !isZero(c):
			t.Fatalf("Get(%q): %v %d", l, c, err)
		case err == api.OK && bytesOf(c) != string(l):
			t.Fatalf("Get(%q): %v", l, c)
		case err == api.OK:
			asked(t, c)
		}
	}
	for _, err := range []api.Errno{api.OK, api.ErrForm, api.ErrArg, api.ErrFull} {
		if seen[err] < 1000 {
			t.Errorf("%d answers were %d", seen[err], err)
		}
	}
}

func TestAnswersAreApart(t *testing.T) {
	a, err := conf.Get(someBytes)
	if err != api.OK {
		t.Fatal(err)
	}
	b, _ := conf.Get(someBytes)
	for _, p := range numbers(a) {
		*p = 77
	}
	_ = append(a.Parts[:0], api.PartConf{}, api.PartConf{})
	if c, _ := conf.Get(someBytes); !alike(b, some()) || !alike(c, some()) {
		t.Errorf("an answer was changed by another one: %v, %v", b, c)
	}
}

func TestWhatIsHandedInStays(t *testing.T) {
	// Behind each list there is room with something in it.
	c := some()
	whole := clone(c)
	c.Parts, c.Windows, c.Chans = c.Parts[:2], c.Windows[:2], c.Chans[:1]
	short := clone(c)
	for range 2 {
		asked(t, c)
		conf.Same(c, c)
	}
	if !alike(c, short) || !alike(api.Config{Parts: c.Parts[:3], Windows: c.Windows[:4], Chans: c.Chans[:3]}, whole) {
		t.Errorf("what was handed in is changed: %v", c)
	}
}

func TestThereAndBack(t *testing.T) { // P6.3
	r := random(7)
	of := map[string]api.Config{}
	seen := map[api.Errno]int{}
	for range 5000 {
		c := anyone(&r)
		asked(t, c)
		seen[conf.Check(c)]++
		s, err := conf.Put(c)
		if err != api.OK {
			continue
		}
		back, err := conf.Get(s)
		if err != api.OK || !conf.Same(back, c) {
			t.Fatalf("Get of Put(%v): %v %d", c, back, err)
		}
		if again, err := conf.Put(back); again != s || err != api.OK {
			t.Fatalf("Put of Get(%q): %q %d", s, again, err)
		}
		if other, there := of[s]; there && !alike(other, c) {
			t.Fatalf("Put of %v and of %v: %q", c, other, s)
		}
		of[s] = c
		// One number more or less, and the bytes are other ones.
		p := numbers(c)[r.below(len(numbers(c)))]
		*p += 1 - 2*r.below(2)
		if near, err := conf.Put(c); err == api.OK && near == s {
			t.Fatalf("Put of %v and of %v: %q", back, c, s)
		}
	}
	if seen[api.OK] < 1000 || seen[api.ErrFull] < 1000 {
		t.Errorf("%d may be, %d have too many frames", seen[api.OK], seen[api.ErrFull])
	}
}

func TestExamples(t *testing.T) {
	if s, err := conf.Put(least()); s != leastBytes || err != api.OK {
		t.Errorf("Put: %q %d", s, err)
	}
	if n := conf.Frames(least()); n != 5 {
		t.Errorf("Frames: %d, want 5", n)
	}
	for _, x := range []struct {
		s   string
		err api.Errno
	}{{"PR1", api.ErrForm}, {leastBytes + "\x00", api.ErrForm}, {strings.Replace(leastBytes, "\x04", "\x03", 1), api.ErrArg}} {
		if c, err := conf.Get(x.s); err != x.err || !isZero(c) {
			t.Errorf("Get(%q): %v %d, want %d", x.s, c, err, x.err)
		}
	}
}
