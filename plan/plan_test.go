package plan_test

import (
	"math"
	"slices"
	"testing"

	"priory/api"
	"priory/conf"
	"priory/plan"
)

// off are numbers that are no partition's and no channel's, whatever the configuration. Some of them go round when they are multiplied, or cut to fewer bits.
var off = []int{math.MinInt, math.MinInt + 1, -1 << 62, -1 << 32, -1 << 31, -256, -17, -8, -2, -1, 16, 17, 255, 256, 257, 65536, math.MaxInt32, 1 << 31, 1 << 32, 1<<32 + 1, 1 << 61, 1 << 62, 1<<63 - 8, math.MaxInt - 1, math.MaxInt}

// random is a row of numbers that is always the same.
type random uint32

// below tells the next number, which is below n.
func (r *random) below(n int) int {
	*r = *r*1664525 + 1013904223
	return int(*r>>8) % n
}

// from tells the next number from one to another.
func (r *random) from(least, most int) int { return least + r.below(most-least+1) }

// example is the configuration of the chapter's examples.
func example() api.Config {
	return api.Config{
		Parts:   []api.PartConf{{Quota: 4, Slots: 1}, {Quota: 5, Slots: 4}},
		Windows: []api.Window{{Part: 0, Ticks: 2}, {Part: 1, Ticks: 1}},
		Chans:   []api.ChanConf{{From: 0, To: 1, Cap: 2, Words: 3}},
	}
}

// some is a configuration of three partitions, one of which has two windows side by side, and of channels of each number of frames.
func some() api.Config {
	return api.Config{
		Parts:   []api.PartConf{{Quota: 9, Slots: 3}, {Quota: 256, Slots: 8}, {Quota: 10, Slots: 6}},
		Windows: []api.Window{{Part: 2, Ticks: 3}, {Part: 0, Ticks: 1}, {Part: 0, Ticks: 255}, {Part: 1, Ticks: 2}, {Part: 2, Ticks: 1}},
		Chans:   []api.ChanConf{{From: 0, To: 1, Cap: 8, Words: 8}, {From: 2, To: 0, Cap: 1, Words: 1}, {From: 1, To: 2, Cap: 8, Words: 4}, {From: 1, To: 0, Cap: 8, Words: 3}},
	}
}

// many makes a configuration of so many of each list, all of them the least ones.
func many(parts, windows, chans int) api.Config {
	var c api.Config
	for range parts {
		c.Parts = append(c.Parts, api.PartConf{Quota: 4, Slots: 1})
	}
	for i := range windows {
		c.Windows = append(c.Windows, api.Window{Part: i % parts, Ticks: 1})
	}
	for i := range chans {
		c.Chans = append(c.Chans, api.ChanConf{From: i % parts, To: (i + 1) % parts, Cap: 1, Words: 1})
	}
	return c
}

// full takes just 1024 frames: 768 and 249 of the partitions, 4 of their traps, 3 of the channel.
func full() api.Config {
	c := many(4, 32, 1)
	for i, quota := range []int{256, 249, 256, 256} {
		c.Parts[i].Quota = quota
	}
	for i := range c.Windows {
		c.Windows[i].Ticks = 255
	}
	c.Chans[0].Cap, c.Chans[0].Words = 8, 8
	return c
}

// anyone makes a configuration that may be, but perhaps for its frames.
func anyone(r *random) api.Config {
	var c api.Config
	quotas := [][2]int{{4, 16}, {4, 256}, {170, 256}}[r.below(3)]
	for i := range r.from(1, 8) {
		c.Parts = append(c.Parts, api.PartConf{Quota: r.from(quotas[0], quotas[1]), Slots: r.from(1, 8)})
		c.Windows = append(c.Windows, api.Window{Part: i, Ticks: r.from(1, 255)})
	}
	ticks := []int{3, 255}[r.below(2)]
	for range r.below(25) {
		c.Windows = slices.Insert(c.Windows, r.below(len(c.Windows)+1), api.Window{Part: r.below(len(c.Parts)), Ticks: r.from(1, ticks)})
	}
	if len(c.Parts) == 1 {
		return c
	}
	for range r.below(17) {
		from := r.below(len(c.Parts))
		to := (from + r.from(1, len(c.Parts)-1)) % len(c.Parts)
		c.Chans = append(c.Chans, api.ChanConf{From: from, To: to, Cap: r.from(1, 8), Words: r.from(1, 8)})
	}
	return c
}

// clone copies a configuration, so that nothing is shared.
func clone(c api.Config) api.Config {
	return api.Config{Parts: slices.Clone(c.Parts), Windows: slices.Clone(c.Windows), Chans: slices.Clone(c.Chans)}
}

// thing is what frames are for: a letter (o, t or c), and the partition's or the channel's number.
type thing struct {
	of byte
	no int
}

// framesOf tells what each frame is for, counted one by one as the document lays them.
func framesOf(c api.Config) []thing {
	var l []thing
	for i, p := range c.Parts {
		for range p.Quota {
			l = append(l, thing{'o', i})
		}
		for slots := p.Slots; slots > 0; slots -= 3 {
			l = append(l, thing{'t', i})
		}
	}
	for i, h := range c.Chans {
		words := 0
		for range h.Cap {
			words += 1 + h.Words
		}
		for ; words > 0; words -= 32 {
			l = append(l, thing{'c', i})
		}
	}
	return l
}

// turnsOf tells the window of each tick of a major frame.
func turnsOf(c api.Config) []int {
	var l []int
	for i, w := range c.Windows {
		for range w.Ticks {
			l = append(l, i)
		}
	}
	return l
}

// place asks for the frames of a thing.
func place(c api.Config, x thing) (from, many int, e api.Errno) {
	switch x.of {
	case 'o':
		return plan.Own(c, x.no)
	case 't':
		return plan.Traps(c, x.no)
	}
	return plan.Chan(c, x.no)
}

// lies holds the frames of a thing against what they should be.
func lies(t *testing.T, c api.Config, x thing, from, many int) {
	t.Helper()
	if f, m, err := place(c, x); f != from || m != many || err != api.OK {
		t.Fatalf("%c %d of %v: %d %d %d, want %d %d", x.of, x.no, c, f, m, err, from, many)
	}
}

// nowhere is that an error is the answer about the frames of a thing.
func nowhere(t *testing.T, c api.Config, x thing, want api.Errno) {
	t.Helper()
	if from, many, err := place(c, x); from != 0 || many != 0 || err != want {
		t.Fatalf("%c %d of %v: %d %d %d, want %d", x.of, x.no, c, from, many, err, want)
	}
}

// placed holds all frames of a configuration that may be against the model.
func placed(t *testing.T, c api.Config) {
	t.Helper()
	before, all := clone(c), framesOf(c)
	count := map[thing]int{}
	for _, x := range all {
		count[x]++
	}
	for x, n := range count {
		lies(t, c, x, slices.Index(all, x), n)
	}
	if things := 2*len(c.Parts) + len(c.Chans); len(count) != things {
		t.Fatalf("%d things have frames, want %d", len(count), things)
	}
	for _, no := range append([]int{len(c.Parts), len(c.Parts) + 1}, off...) {
		nowhere(t, c, thing{'o', no}, api.ErrArg)
		nowhere(t, c, thing{'t', no}, api.ErrArg)
	}
	for _, no := range append([]int{len(c.Chans), len(c.Chans) + 1}, off...) {
		nowhere(t, c, thing{'c', no}, api.ErrArg)
	}
	if !conf.Same(c, before) {
		t.Fatalf("%v is now %v", before, c)
	}
}

// turn holds whose turn it is at a tick against what it should be.
func turn(t *testing.T, c api.Config, tick uint64, part, window int) {
	t.Helper()
	if p, w, err := plan.Turn(c, tick); p != part || w != window || err != api.OK {
		t.Fatalf("Turn(%v, %d): %d %d %d, want %d %d", c, tick, p, w, err, part, window)
	}
}

// turned holds the turns of a configuration that may be against the model, each tick of the first major frame and some of far ones.
func turned(t *testing.T, c api.Config) {
	t.Helper()
	before, all := clone(c), turnsOf(c)
	if n, err := plan.Major(c); n != len(all) || err != api.OK {
		t.Fatalf("Major(%v): %d %d, want %d", c, n, err, len(all))
	}
	for tick, w := range all {
		turn(t, c, uint64(tick), c.Windows[w].Part, w)
	}
	n := uint64(len(all))
	for _, at := range []uint64{n, 2 * n, 1000 * n, 1 << 31, 1 << 32, 1 << 63, math.MaxUint64} {
		for near := at - 2; near != at+3; near++ {
			w := all[near%n]
			turn(t, c, near, c.Windows[w].Part, w)
		}
	}
	if !conf.Same(c, before) {
		t.Fatalf("%v is now %v", before, c)
	}
}

// refused is that an error is the answer to all that is asked of a configuration.
func refused(t *testing.T, c api.Config, want api.Errno) {
	t.Helper()
	for _, no := range append([]int{0, 1, len(c.Parts) - 1, len(c.Parts), len(c.Chans) - 1, len(c.Chans)}, off...) {
		for _, of := range []byte{'o', 't', 'c'} {
			nowhere(t, c, thing{of, no}, want)
		}
	}
	if n, err := plan.Major(c); n != 0 || err != want {
		t.Fatalf("Major(%v): %d %d, want %d", c, n, err, want)
	}
	for _, tick := range []uint64{0, 1, 2, 1 << 32, 1 << 63, math.MaxUint64} {
		if part, window, err := plan.Turn(c, tick); part != 0 || window != 0 || err != want {
			t.Fatalf("Turn(%v, %d): %d %d %d, want %d", c, tick, part, window, err, want)
		}
	}
}

func TestFramesByHand(t *testing.T) { // P7.1
	for _, x := range []struct {
		x          thing
		from, many int
	}{
		{thing{'o', 0}, 0, 9}, {thing{'t', 0}, 9, 1},
		{thing{'o', 1}, 10, 256}, {thing{'t', 1}, 266, 3},
		{thing{'o', 2}, 269, 10}, {thing{'t', 2}, 279, 2},
		{thing{'c', 0}, 281, 3}, {thing{'c', 1}, 284, 1}, {thing{'c', 2}, 285, 2}, {thing{'c', 3}, 287, 1},
	} {
		lies(t, some(), x.x, x.from, x.many)
	}
	lies(t, full(), thing{'c', 0}, 1021, 3)
	lies(t, full(), thing{'t', 3}, 1020, 1)
	lies(t, many(8, 8, 16), thing{'c', 15}, 55, 1)
}

func TestFramesOfNobody(t *testing.T) { // P7.1
	for _, x := range []thing{{'o', -1}, {'o', 3}, {'t', -1}, {'t', 3}, {'c', -1}, {'c', 4}} {
		nowhere(t, some(), x, api.ErrArg)
	}
	alone := many(1, 1, 0)
	nowhere(t, alone, thing{'c', 0}, api.ErrArg)
	nowhere(t, alone, thing{'o', 1}, api.ErrArg)
	nowhere(t, alone, thing{'t', 1}, api.ErrArg)
}

func TestFramesOfSlots(t *testing.T) { // P7.1
	for i, traps := range []int{1, 1, 1, 2, 2, 2, 3, 3} {
		c := many(3, 3, 2)
		c.Parts[1].Slots = i + 1
		lies(t, c, thing{'t', 1}, 9, traps)
		lies(t, c, thing{'o', 2}, 9+traps, 4)
		placed(t, c)
	}
}

func TestFramesOfQuotas(t *testing.T) { // P7.1
	for quota := 4; quota <= 256; quota++ {
		c := many(3, 3, 2)
		c.Parts[1].Quota = quota
		lies(t, c, thing{'o', 1}, 5, quota)
		lies(t, c, thing{'t', 1}, 5+quota, 1)
		placed(t, c)
	}
}

func TestFramesOfChannels(t *testing.T) { // P7.1
	for _, x := range []struct{ cap, words, frames int }{
		{1, 1, 1}, {1, 8, 1}, {3, 8, 1}, {4, 8, 2}, {7, 8, 2}, {8, 8, 3}, {4, 7, 1}, {5, 7, 2}, {8, 7, 2}, {8, 3, 1}, {8, 4, 2}, {8, 1, 1}, {5, 5, 1}, {6, 5, 2},
	} {
		c := many(2, 2, 3)
		c.Chans[1].Cap, c.Chans[1].Words = x.cap, x.words
		lies(t, c, thing{'c', 1}, 11, x.frames)
		lies(t, c, thing{'c', 2}, 11+x.frames, 1)
	}
	for messages := 1; messages <= 8; messages++ {
		for words := 1; words <= 8; words++ {
			c := many(2, 2, 3)
			c.Chans[1].Cap, c.Chans[1].Words = messages, words
			placed(t, c)
		}
	}
}

func TestMajorByHand(t *testing.T) { // P7.2
	for _, x := range []struct {
		c     api.Config
		ticks int
	}{{many(1, 1, 0), 1}, {example(), 3}, {some(), 262}, {many(8, 32, 16), 32}, {full(), 8160}} {
		if n, err := plan.Major(x.c); n != x.ticks || err != api.OK {
			t.Errorf("Major(%v): %d %d, want %d", x.c, n, err, x.ticks)
		}
	}
}

func TestTurnByHand(t *testing.T) { // P7.2
	for _, x := range []struct {
		tick         uint64
		part, window int
	}{
		{0, 2, 0}, {2, 2, 0}, {3, 0, 1}, {4, 0, 2}, {258, 0, 2}, {259, 1, 3}, {260, 1, 3}, {261, 2, 4},
		{262, 2, 0}, {264, 2, 0}, {265, 0, 1}, {523, 2, 4}, {524, 2, 0},
		{262 << 32, 2, 0}, {262<<32 + 3, 0, 1}, {262<<32 - 1, 2, 4},
		// 2^64 - 1 is 262 times 70407420128662410 and 195; 2^63, 262 times 35203710064331205 and 98.
		{math.MaxUint64, 0, 2}, {math.MaxUint64 - 191, 0, 2}, {math.MaxUint64 - 192, 0, 1}, {math.MaxUint64 - 193, 2, 0}, {math.MaxUint64 - 196, 2, 4}, {math.MaxUint64 - 197, 1, 3},
		{1 << 63, 0, 2}, {1<<63 - 94, 0, 2}, {1<<63 - 95, 0, 1}, {1<<63 - 98, 2, 0}, {1<<63 - 99, 2, 4},
	} {
		turn(t, some(), x.tick, x.part, x.window)
	}
	for _, tick := range []uint64{0, 1, 7, 1 << 32, math.MaxUint64} {
		turn(t, many(1, 1, 0), tick, 0, 0)
	}
}

func TestTurnsOfWindows(t *testing.T) { // P7.2
	for n := 1; n <= 32; n++ {
		turned(t, many(min(n, 8), n, 0))
	}
	for ticks := 1; ticks <= 255; ticks++ {
		c := many(3, 3, 0)
		c.Windows[1].Ticks = ticks
		turned(t, c)
	}
	c := full()
	turned(t, c)
	slices.Reverse(c.Windows)
	c.Windows[0].Ticks, c.Windows[31].Ticks = 1, 254
	turned(t, c)
}

func TestWhatMayNotBe(t *testing.T) { // P7.1, P7.2
	refused(t, api.Config{}, api.ErrArg)
	refused(t, api.Config{Parts: []api.PartConf{}, Windows: []api.Window{}, Chans: []api.ChanConf{}}, api.ErrArg)
	for _, wrong := range []func(c *api.Config){
		func(c *api.Config) { c.Parts = nil },
		func(c *api.Config) { c.Windows = nil },
		func(c *api.Config) { c.Windows = c.Windows[1:] },
		func(c *api.Config) { c.Parts = many(9, 0, 0).Parts },
		func(c *api.Config) { c.Windows = many(2, 33, 0).Windows },
		func(c *api.Config) { c.Chans = many(2, 0, 17).Chans },
		func(c *api.Config) { c.Parts[0].Quota = 3 },
		func(c *api.Config) { c.Parts[1].Quota = 257 },
		func(c *api.Config) { c.Parts[1].Quota = math.MaxInt },
		func(c *api.Config) { c.Parts[0].Slots = 0 },
		func(c *api.Config) { c.Parts[1].Slots = 9 },
		func(c *api.Config) { c.Parts[1].Slots = math.MinInt },
		func(c *api.Config) { c.Windows[0].Part = -1 },
		func(c *api.Config) { c.Windows = append(c.Windows, api.Window{Part: 2, Ticks: 1}) },
		func(c *api.Config) { c.Windows[1].Ticks = 0 },
		func(c *api.Config) { c.Windows[1].Ticks = 256 },
		func(c *api.Config) { c.Windows[0].Ticks = -1 },
		func(c *api.Config) { c.Windows[0].Ticks, c.Windows[1].Ticks = math.MaxInt, math.MaxInt },
		func(c *api.Config) { c.Windows[0].Ticks, c.Windows[1].Ticks = 1, -1 },
		func(c *api.Config) { c.Chans[0].To = 0 },
		func(c *api.Config) { c.Chans[0].From = 2 },
		func(c *api.Config) { c.Chans[0].Cap = 0 },
		func(c *api.Config) { c.Chans[0].Cap = 9 },
		func(c *api.Config) { c.Chans[0].Words = -1 },
		func(c *api.Config) { c.Chans[0].Words = math.MaxInt },
	} {
		c := example()
		wrong(&c)
		refused(t, c, api.ErrArg)
	}
}

func TestTooManyFrames(t *testing.T) { // P7.1, P7.2
	placed(t, full())
	// Each of these takes just one frame more.
	for _, more := range []func(c *api.Config){
		func(c *api.Config) { c.Parts[1].Quota++ },
		func(c *api.Config) { c.Parts[3].Slots = 4 },
		func(c *api.Config) { c.Chans = append(c.Chans, api.ChanConf{From: 3, To: 1, Cap: 1, Words: 1}) },
	} {
		// That goes ahead of a partition, or a channel, that there is not.
		c := full()
		more(&c)
		refused(t, c, api.ErrFull)
		// And what may not be, ahead of the frames.
		c.Windows[3].Ticks = 0
		refused(t, c, api.ErrArg)
	}
}

// laid counts how often each frame is somebody's, by the program's own answers.
func laid(t *testing.T, c api.Config) []int {
	t.Helper()
	l := make([]int, conf.Frames(c))
	count := func(from, many int, err api.Errno) {
		if err != api.OK || from < 0 || many < 1 || from+many > len(l) {
			t.Fatalf("%v: %d %d %d", c, from, many, err)
		}
		for i := range many {
			l[from+i]++
		}
	}
	for i := range c.Parts {
		count(plan.Own(c, i))
		count(plan.Traps(c, i))
	}
	for i := range c.Chans {
		count(plan.Chan(c, i))
	}
	return l
}

func TestEachFrameIsOneThings(t *testing.T) { // P7.3
	r := random(3)
	seen := map[api.Errno]int{}
	for range 3000 {
		c := anyone(&r)
		err := conf.Check(c)
		seen[err]++
		if err != api.OK {
			refused(t, c, err)
			continue
		}
		placed(t, c)
		for frame, n := range laid(t, c) {
			if n != 1 {
				t.Fatalf("%v: the frame %d is of %d", c, frame, n)
			}
		}
	}
	if seen[api.OK] < 500 || seen[api.ErrFull] < 500 {
		t.Errorf("%d may be, %d have too many frames", seen[api.OK], seen[api.ErrFull])
	}
}

func TestTurnsGoRound(t *testing.T) { // P7.4
	r := random(5)
	for range 300 {
		c := anyone(&r)
		if conf.Check(c) != api.OK {
			continue
		}
		turned(t, c)
		major, _ := plan.Major(c)
		for range 100 {
			tick := uint64(r.below(1<<24)) << r.below(40)
			part, window, err := plan.Turn(c, tick)
			if err != api.OK {
				t.Fatalf("Turn(%v, %d): %d", c, tick, err)
			}
			for _, later := range []uint64{1, 2, 1 + uint64(r.below(1<<16))} {
				turn(t, c, tick+later*uint64(major), part, window)
			}
		}
	}
}

func TestWindowsInOrder(t *testing.T) { // P7.4
	r := random(9)
	for range 100 {
		c := anyone(&r)
		major, err := plan.Major(c)
		if err != api.OK {
			continue
		}
		// Each window's turn is as long as its Ticks, and then comes the one behind it, from any major frame's beginning on.
		tick := uint64(major) * uint64(r.below(1<<24))
		end := tick + uint64(major)
		for i, w := range c.Windows {
			for range w.Ticks {
				turn(t, c, tick, w.Part, i)
				tick++
			}
		}
		if tick != end {
			t.Fatalf("%v: the turns end at %d, the major frame at %d", c, tick, end)
		}
	}
}

func TestWhatIsHandedInStays(t *testing.T) {
	// Behind each list there is room with something in it, which counts for nothing.
	c := some()
	whole := clone(c)
	c.Windows, c.Chans = c.Windows[:4], c.Chans[:2]
	short := clone(c)
	for range 2 {
		placed(t, c)
		turned(t, c)
	}
	if !conf.Same(c, short) || !conf.Same(api.Config{Parts: c.Parts, Windows: c.Windows[:5], Chans: c.Chans[:4]}, whole) {
		t.Errorf("what was handed in is changed: %v", c)
	}
}

func TestExamples(t *testing.T) {
	c := example()
	lies(t, c, thing{'o', 0}, 0, 4)
	lies(t, c, thing{'t', 0}, 4, 1)
	lies(t, c, thing{'o', 1}, 5, 5)
	lies(t, c, thing{'t', 1}, 10, 2)
	lies(t, c, thing{'c', 0}, 12, 1)
	if n, err := plan.Major(c); n != 3 || err != api.OK {
		t.Errorf("Major: %d %d, want 3", n, err)
	}
	for tick, part := range []int{0, 0, 1, 0} {
		turn(t, c, uint64(tick), part, part)
	}
}
