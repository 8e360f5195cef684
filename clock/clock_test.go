package clock

import (
	"fmt"
	"math"
	"math/rand"
	"slices"
	"strings"
	"testing"
)

// block is a slot of the model; born numbers the slots as they were added.
type block struct {
	born     int
	file, at int
	data     string
	pins     int
	marked   bool
}

// model is the chapter a second time: a ring that begins at the slot that the hand
// points to. The hand goes on as the ring is turned.
type model struct {
	room, born int
	ring       []block
}

func newModel(room int) *model { return &model{room: max(room, 0)} }

// added returns the slots in the order in which they were added.
func (m *model) added() []block {
	l := slices.Clone(m.ring)
	slices.SortFunc(l, func(a, b block) int { return a.born - b.born })
	return l
}

func (m *model) list() (l [][2]int) {
	for _, s := range m.added() {
		l = append(l, [2]int{s.file, s.at})
	}
	return l
}

func (m *model) used() (n int) {
	for _, s := range m.ring {
		n += len(s.data)
	}
	return n
}

func (m *model) pins() (n int) {
	for _, s := range m.ring {
		n += s.pins
	}
	return n
}

func (m *model) find(file, at int) *block {
	for i, s := range m.ring {
		if s.file == file && s.at == at {
			return &m.ring[i]
		}
	}
	return nil
}

func (m *model) get(file, at int) (string, bool) {
	s := m.find(file, at)
	if s == nil {
		return "", false
	}
	s.pins++
	s.marked = true
	return s.data, true
}

func (m *model) put(file, at int, data string) bool {
	if _, there := m.get(file, at); there {
		return true
	}
	for m.used()+len(data) > m.room {
		if !m.evict() {
			return false
		}
	}
	m.born++
	m.ring = slices.Insert(slices.Clone(m.ring), m.end(), block{m.born, file, at, data, 1, true})
	return true
}

// end tells where the ring has the place behind the slot that was added last.
func (m *model) end() int {
	end, last := 0, 0
	for i, s := range m.ring {
		if s.born > last {
			end, last = i+1, s.born
		}
	}
	return end
}

func (m *model) evict() bool {
	for range 2 {
		for range len(m.ring) {
			s, others := m.ring[0], m.ring[1:]
			if s.pins == 0 && !s.marked {
				m.ring = others
				return true
			}
			if s.pins == 0 {
				s.marked = false
			}
			m.ring = append(slices.Clone(others), s)
		}
	}
	return false
}

func (m *model) release(file, at int) bool {
	s := m.find(file, at)
	if s == nil || s.pins == 0 {
		return false
	}
	s.pins--
	return true
}

func (m *model) drop(file int) int {
	var stay []block
	for _, s := range m.ring {
		if s.file != file || s.pins > 0 {
			stay = append(stay, s)
		}
	}
	dropped := len(m.ring) - len(stay)
	m.ring = stay
	return dropped
}

// state tells all of the model but the numbers of the slots.
func (m *model) state() string {
	hand := 0
	l := m.added()
	for i := range l {
		if l[i].born == m.ring[0].born {
			hand = i
		}
		l[i].born = 0
	}
	return fmt.Sprint(l, hand)
}

// A step is one call that may change the cache.
type step struct {
	call     string
	file, at int
	data     string
}

func text(n int) string { return strings.Repeat("x", n) }

// pair is a cache and the model that it is held against.
type pair struct {
	c *Cache
	m *model
}

func newPair(room int) pair { return pair{New(room), newModel(room)} }

func (p pair) take(t *testing.T, s step) {
	t.Helper()
	before := p.m.ring
	var got, want string
	switch s.call {
	case "Get":
		b, ok := p.c.Get(s.file, s.at)
		data, there := p.m.get(s.file, s.at)
		got, want = fmt.Sprintf("%q %t", b, ok), fmt.Sprintf("%q %t", data, there)
	case "Put":
		got, want = fmt.Sprint(p.c.Put(s.file, s.at, []byte(s.data))), fmt.Sprint(p.m.put(s.file, s.at, s.data))
	case "Release":
		got, want = fmt.Sprint(p.c.Release(s.file, s.at)), fmt.Sprint(p.m.release(s.file, s.at))
	case "Drop":
		got, want = fmt.Sprint(p.c.Drop(s.file)), fmt.Sprint(p.m.drop(s.file))
	}
	if got != want {
		t.Fatalf("%v: %s, want %s, at %v", s, got, want, before)
	}
	p.check(t)
}

// check holds what is to be seen of the cache against the model, and P1402's bound.
func (p pair) check(t *testing.T) {
	t.Helper()
	if got, want := p.c.List(), p.m.list(); !slices.Equal(got, want) {
		t.Fatalf("List: %v, want %v", got, want)
	}
	if got, want := p.c.Used(), p.m.used(); got != want {
		t.Fatalf("Used: %d, want %d", got, want)
	}
	if got, want := p.c.Pins(), p.m.pins(); got != want {
		t.Fatalf("Pins: %d, want %d", got, want)
	}
	if got := p.c.Used(); got > p.m.room {
		t.Fatalf("Used: %d, above %d", got, p.m.room)
	}
}

// probe lets what is not to be seen of the cache show: it releases all slots, which
// then go one by one, in the order that the hand and the marks tell.
func (p pair) probe(t *testing.T) {
	t.Helper()
	for _, s := range p.m.added() {
		for range s.pins {
			p.take(t, step{call: "Release", file: s.file, at: s.at})
		}
	}
	for n := range 2*len(p.m.ring) + 1 {
		p.take(t, step{"Put", 10000 + n, 0, "p"})
		p.take(t, step{call: "Release", file: 10000 + n})
	}
}

// places are those of the scripts: three of one file, and one of another.
var places = [][2]int{{1, 0}, {1, 1}, {2, 0}, {1, 2}}

// stepsOf are all calls on the first places, the bytes of each place with its own size;
// and those with a place or a file that is not there.
func stepsOf(sizes []int) []step {
	l := []step{{call: "Drop", file: 1}, {call: "Drop", file: 2}, {call: "Drop", file: 0}, {call: "Get", file: 2, at: 1}, {call: "Release", file: 2, at: 1}}
	for i, n := range sizes {
		file, at := places[i][0], places[i][1]
		l = append(l, step{"Put", file, at, text(n)}, step{call: "Get", file: file, at: at}, step{call: "Release", file: file, at: at})
	}
	return append(l, step{"Put", 3, 0, text(9)})
}

// tooFar reports whether the states behind this one are left out.
func (m *model) tooFar() bool {
	return slices.ContainsFunc(m.ring, func(s block) bool { return s.pins > 1 })
}

// Every call in every state that small caches allow, with pin counts up to 2.
func TestP1401EveryState(t *testing.T) {
	for _, x := range []struct {
		room   int
		sizes  []int
		states int
	}{
		{0, []int{0, 0}, 23}, {1, []int{1, 1, 0}, 49}, {2, []int{1, 1, 1}, 79}, {3, []int{1, 1, 1}, 346}, {3, []int{1, 2, 1}, 79},
		{4, []int{2, 1, 3}, 49}, {2, []int{0, 2, 1}, 49}, {3, []int{1, 1, 1, 1}, 2198}, {3, []int{2, 1, 1, 0}, 1540}, {4, []int{1, 1, 1, 1}, 5101},
	} {
		ways := map[string][]step{newModel(x.room).state(): nil}
		queue := [][]step{nil}
		for len(queue) > 0 {
			way := queue[0]
			queue = queue[1:]
			for _, s := range stepsOf(x.sizes) {
				p := newPair(x.room)
				for _, before := range way {
					p.take(t, before)
				}
				p.take(t, s)
				state := p.m.state()
				if _, known := ways[state]; !known {
					ways[state] = append(slices.Clone(way), s)
					if !p.m.tooFar() {
						queue = append(queue, ways[state])
					}
				}
				p.probe(t)
			}
		}
		if len(ways) != x.states {
			t.Errorf("room %d, sizes %v: %d states, want %d", x.room, x.sizes, len(ways), x.states)
		}
	}
}

func randomStep(r *rand.Rand, files, longest int) step {
	calls := []string{"Get", "Get", "Put", "Put", "Put", "Release", "Release", "Release", "Release", "Drop"}
	s := step{call: calls[r.Intn(len(calls))], file: r.Intn(files), at: r.Intn(4)}
	switch s.call {
	case "Put":
		s.data = strings.Repeat(string(rune('a'+r.Intn(26))), r.Intn(longest+1))
	case "Drop":
		// Most files stay for a while.
		s.file += r.Intn(3) * files
	}
	return s
}

func TestP1401RandomScripts(t *testing.T) {
	for seed := range 300 {
		r := rand.New(rand.NewSource(int64(seed)))
		room, files, longest := r.Intn(60), 1+r.Intn(12), r.Intn(12)
		p := newPair(room)
		for range 400 {
			p.take(t, randomStep(r, files, longest))
		}
		p.probe(t)
	}
}

// Rings of many slots, of which the hand skips more or less.
func TestP1401LongRings(t *testing.T) {
	for seed := range 4 {
		r := rand.New(rand.NewSource(int64(seed)))
		p := newPair(300)
		for n := range 300 {
			p.take(t, step{"Put", n, 0, "x"})
		}
		for n := range 300 {
			if r.Intn(4) > 0 {
				p.take(t, step{call: "Release", file: n})
			}
		}
		for n := range 300 {
			s := step{call: "Get", file: r.Intn(300 + n)}
			p.take(t, s)
			s.call = "Release"
			p.take(t, s)
			p.take(t, step{"Put", 300 + n, 0, text(r.Intn(3))})
			p.take(t, step{call: "Release", file: 300 + r.Intn(n+1)})
			p.take(t, step{call: "Drop", file: r.Intn(2000)})
		}
		p.probe(t)
	}
}

func wantOK(t *testing.T, what string, got, want bool) {
	t.Helper()
	if got != want {
		t.Errorf("%s = %t, want %t", what, got, want)
	}
}

// wantCache is for what Used, Pins and List tell.
func wantCache(t *testing.T, c *Cache, used, pins int, list ...[2]int) {
	t.Helper()
	if !slices.Equal(c.List(), list) || c.Used() != used || c.Pins() != pins {
		t.Errorf("List %v, Used %d, Pins %d, want %v, %d, %d", c.List(), c.Used(), c.Pins(), list, used, pins)
	}
}

// loose puts slots of one byte and releases each, and tells the files that are there.
func loose(c *Cache, files ...int) []int {
	for _, file := range files {
		if c.Put(file, 0, []byte{byte(file)}) {
			c.Release(file, 0)
		}
	}
	return filesOf(c)
}

func filesOf(c *Cache) (l []int) {
	for _, place := range c.List() {
		l = append(l, place[0])
	}
	return l
}

func wantFiles(t *testing.T, what string, got []int, want ...int) {
	t.Helper()
	if !slices.Equal(got, want) {
		t.Errorf("%s: files %v, want %v", what, got, want)
	}
}

// turned is a full cache with a slot of one byte for each file from 1 to n. The hand
// points to that of 1; only that of n has a mark.
func turned(n int) *Cache {
	c := New(n)
	for file := range n + 1 {
		loose(c, file)
	}
	return c
}

func pin(c *Cache, files ...int) {
	for _, file := range files {
		c.Get(file, 0)
	}
}

func unpin(c *Cache, files ...int) {
	for _, file := range files {
		c.Release(file, 0)
	}
}

func TestP1401Example(t *testing.T) {
	wantOK(t, "Put", New(0).Put(1, 2, []byte{3}), false)
}

func TestP1401Room(t *testing.T) {
	for _, x := range []struct{ given, used int }{
		{math.MinInt, 0}, {math.MinInt + 1, 0}, {-1 << 32, 0}, {-1<<32 + 9, 0}, {-9, 0}, {-1, 0}, {0, 0}, {1, 1}, {2, 2}, {9, 9}, {1 << 16, 1 << 16},
	} {
		for first := range min(x.used, 9) + 1 {
			c := New(x.given)
			wantCache(t, c, 0, 0)
			wantOK(t, "Put of the first bytes", c.Put(1, 0, make([]byte, first)), true)
			wantOK(t, "Put of one too many", c.Put(2, 0, make([]byte, x.used-first+1)), false)
			wantCache(t, c, first, 1, [2]int{1, 0})
			wantOK(t, "Put of the rest", c.Put(2, 0, make([]byte, x.used-first)), true)
			wantOK(t, "Put of one more", c.Put(3, 0, []byte{1}), false)
			wantOK(t, "Put of nothing", c.Put(3, 0, nil), true)
			wantCache(t, c, x.used, 3, [2]int{1, 0}, [2]int{2, 0}, [2]int{3, 0})
		}
	}
	for _, room := range []int{1 << 32, 1<<32 + 1, math.MaxInt - 1, math.MaxInt} {
		c := New(room)
		for file := range 3 {
			wantOK(t, "Put", c.Put(file, 0, make([]byte, 1000)), true)
		}
		wantCache(t, c, 3000, 3, [2]int{0, 0}, [2]int{1, 0}, [2]int{2, 0})
	}
}

func TestP1401PlacesAreAnyNumbers(t *testing.T) {
	numbers := []int{math.MinInt, -1 << 32, -1, 0, 1, 2, 1 << 31, 1 << 32, 1<<32 + 1, math.MaxInt}
	p := newPair(1000)
	for _, call := range []string{"Get", "Release", "Put", "Put", "Get", "Release", "Drop"} {
		for i, file := range numbers {
			for k, at := range numbers {
				p.take(t, step{call, file, at, string([]byte{byte(10*i + k)})})
			}
		}
	}
	wantCache(t, p.c, 100, 200, p.m.list()...)
	for range 2 {
		for _, file := range numbers {
			for _, at := range numbers[3:] {
				p.take(t, step{call: "Release", file: file, at: at})
			}
		}
	}
	for _, file := range numbers {
		if got := p.c.Drop(file); got != 7 || p.m.drop(file) != 7 {
			t.Errorf("Drop %d = %d", file, got)
		}
		p.check(t)
	}
	wantCache(t, p.c, 30, 60, p.m.list()...)
}

func TestP1401Get(t *testing.T) {
	c := New(5)
	c.Put(1, 2, []byte("abc"))
	c.Put(3, 4, nil)
	for n, want := range []string{"abc", "abc", "abc"} {
		b, ok := c.Get(1, 2)
		wantOK(t, "Get", ok && string(b) == want, true)
		wantCache(t, c, 3, n+3, [2]int{1, 2}, [2]int{3, 4})
	}
	b, ok := c.Get(3, 4)
	wantOK(t, "Get of nothing", ok && len(b) == 0, true)
	for _, place := range [][2]int{{2, 1}, {1, 1}, {1, 3}, {3, 2}, {1, 4}, {0, 2}, {0, 0}, {-1, 2}, {1, -2}, {1, 1<<32 + 2}, {1<<32 + 1, 2}} {
		b, ok := c.Get(place[0], place[1])
		wantOK(t, fmt.Sprint("Get of ", place), ok || b != nil, false)
	}
	wantCache(t, c, 3, 6, [2]int{1, 2}, [2]int{3, 4})
}

func TestP1401PutOfWhatIsThere(t *testing.T) {
	c := New(3)
	c.Put(1, 2, []byte("abc"))
	for n, b := range []string{"xyz", "", "a", "abc", "abcd", text(99)} {
		wantOK(t, "Put", c.Put(1, 2, []byte(b)), true)
		wantCache(t, c, 3, n+2, [2]int{1, 2})
	}
	b, ok := c.Get(1, 2)
	wantOK(t, "Get", ok && string(b) == "abc", true)
	// It evicts nothing, takes no mark, and leaves the hand where it is.
	c = turned(3)
	wantOK(t, "Put", c.Put(3, 0, []byte(text(99))), true)
	unpin(c, 3)
	wantFiles(t, "the first one goes", loose(c, 4), 2, 3, 4)
}

func TestP1401Release(t *testing.T) {
	c := New(9)
	wantOK(t, "Release of an empty cache", c.Release(1, 2), false)
	c.Put(1, 2, []byte("ab"))
	c.Put(3, 4, []byte("c"))
	c.Get(1, 2)
	c.Get(1, 2)
	for _, left := range []int{3, 2, 1} {
		wantOK(t, "Release", c.Release(1, 2), true)
		wantCache(t, c, 3, left, [2]int{1, 2}, [2]int{3, 4})
	}
	for range 2 {
		wantOK(t, "Release of what is not pinned", c.Release(1, 2), false)
		wantOK(t, "Release of what is not there", c.Release(2, 1) || c.Release(1, 4) || c.Release(3, 2), false)
		wantCache(t, c, 3, 1, [2]int{1, 2}, [2]int{3, 4})
	}
	c.Get(1, 2)
	wantCache(t, c, 3, 2, [2]int{1, 2}, [2]int{3, 4})
	wantOK(t, "Release", c.Release(1, 2), true)
	wantOK(t, "Release of what is not pinned", c.Release(1, 2), false)
}

func TestP1401TheHandGoesOn(t *testing.T) {
	c := turned(4)
	wantFiles(t, "turned", filesOf(c), 1, 2, 3, 4)
	for file := 5; file < 8; file++ {
		wantFiles(t, "what the hand points to goes", loose(c, file), file-3, file-2, file-1, file)
	}
	// All have marks, which the first round takes.
	wantFiles(t, "the second round", loose(c, 8), 5, 6, 7, 8)
	wantFiles(t, "without marks", loose(c, 9, 10), 7, 8, 9, 10)
}

func TestP1401MarksAreSkippedOnce(t *testing.T) {
	c := turned(5)
	pin(c, 1, 3)
	unpin(c, 1, 3)
	wantFiles(t, "1 is skipped", loose(c, 6), 1, 3, 4, 5, 6)
	wantFiles(t, "3 is skipped", loose(c, 7), 1, 3, 5, 6, 7)
	// 5, 6 and 7 have marks, 1 has none any more.
	wantFiles(t, "1 goes", loose(c, 8), 3, 5, 6, 7, 8)
	wantFiles(t, "3 goes", loose(c, 9), 5, 6, 7, 8, 9)
}

// Get and Put of what is there set a mark, and a slot that is skipped as it is pinned
// keeps it.
func TestP1401PinnedSlotsKeepTheirMarks(t *testing.T) {
	for name, mark := range map[string]func(*Cache){
		"Get": func(c *Cache) { c.Get(1, 0) },
		"Put": func(c *Cache) { c.Put(1, 0, nil) },
	} {
		c := turned(3)
		mark(c)
		wantFiles(t, name+": 1 is pinned", loose(c, 4), 1, 3, 4)
		unpin(c, 1)
		wantFiles(t, name+": 1 has a mark as the others", loose(c, 5), 1, 4, 5)
	}
	c := turned(3)
	pin(c, 1, 2, 3)
	wantOK(t, "Put where all are pinned", c.Put(4, 0, []byte{4}), false)
	unpin(c, 1, 2, 3)
	pin(c, 1)
	unpin(c, 1)
	wantFiles(t, "all have marks", loose(c, 4), 2, 3, 4)
}

func TestP1401TheLastSlotGoes(t *testing.T) {
	c := turned(3)
	pin(c, 1, 2)
	wantFiles(t, "3 goes", loose(c, 4), 1, 2, 4)
	unpin(c, 1, 2)
	// All have marks: the hand points to the first slot, not to the one that was added.
	wantFiles(t, "1 goes", loose(c, 5), 2, 4, 5)
}

// A Put that needs the room of several slots goes through the ring for as long as it
// finds one to evict in each two rounds.
func TestP1401PutEvictsSeveral(t *testing.T) {
	c := turned(6)
	pin(c, 2, 4)
	wantOK(t, "Put", c.Put(7, 0, []byte(text(4))), true)
	wantCache(t, c, 6, 3, [2]int{2, 0}, [2]int{4, 0}, [2]int{7, 0})
	c = turned(6)
	for file := range 6 {
		pin(c, file+1)
		unpin(c, file+1)
	}
	pin(c, 1, 6)
	wantOK(t, "Put", c.Put(7, 0, []byte(text(3))), true)
	wantCache(t, c, 6, 3, [2]int{1, 0}, [2]int{5, 0}, [2]int{6, 0}, [2]int{7, 0})
	// The hand points to 5, behind the last one that went.
	unpin(c, 1, 6, 7)
	wantFiles(t, "5 goes", loose(c, 8), 1, 6, 7, 8)
}

func TestP1401PutEvictsNoMoreThanItNeeds(t *testing.T) {
	for n, want := range [][]int{{1, 2, 3, 9}, {2, 3, 9}, {2, 3, 9}, {3, 9}, {3, 9}, {9}} {
		c := New(6)
		for file := 1; file < 4; file++ {
			c.Put(file, 0, []byte("ab"))
			unpin(c, file)
		}
		wantOK(t, "Put", c.Put(9, 0, []byte(text(n))), true)
		wantFiles(t, "Put", filesOf(c), want...)
	}
}

func TestP1401SlotsWithoutBytesGoToo(t *testing.T) {
	c := New(2)
	for file, b := range []string{"", "a", "", "b"} {
		c.Put(file, 0, []byte(b))
		unpin(c, file)
	}
	wantOK(t, "Put of nothing", c.Put(4, 0, nil), true)
	wantFiles(t, "there is room", filesOf(c), 0, 1, 2, 3, 4)
	wantOK(t, "Put", c.Put(5, 0, []byte("c")), true)
	wantFiles(t, "one without bytes goes ahead of one with bytes", filesOf(c), 2, 3, 4, 5)
}

// Where a Put finds no room, what it evicted is gone, and the hand points to the slot at
// which the last two rounds began.
func TestP1401PutThatFails(t *testing.T) {
	c := turned(5)
	pin(c, 2, 4, 5)
	wantOK(t, "Put", c.Put(6, 0, []byte(text(3))), false)
	wantCache(t, c, 3, 3, [2]int{2, 0}, [2]int{4, 0}, [2]int{5, 0})
	b, ok := c.Get(6, 0)
	wantOK(t, "Get", ok || b != nil, false)
	unpin(c, 2, 4, 5)
	wantFiles(t, "there is room", loose(c, 7, 8), 2, 4, 5, 7, 8)
	wantFiles(t, "the hand points to 4", loose(c, 9), 2, 5, 7, 8, 9)

	c = turned(5)
	pin(c, 1, 2, 3, 4, 5)
	for n := range 9 {
		wantOK(t, "Put", c.Put(6, 0, []byte(text(n+1))), false)
	}
	wantCache(t, c, 5, 5, [2]int{1, 0}, [2]int{2, 0}, [2]int{3, 0}, [2]int{4, 0}, [2]int{5, 0})
	unpin(c, 1, 2, 3, 4, 5)
	wantFiles(t, "the hand points to 1", loose(c, 6), 2, 3, 4, 5, 6)

	c = turned(5)
	wantOK(t, "Put", c.Put(6, 0, []byte(text(6))), false)
	wantCache(t, c, 0, 0)
	wantOK(t, "Put into an empty cache", c.Put(6, 0, []byte(text(6))), false)
	wantCache(t, c, 0, 0)
}

// An empty cache's hand points to the next slot that is added, however it became empty.
func TestP1401TheHandOfAnEmptyCache(t *testing.T) {
	for name, empty := range map[string]func(*Cache){
		"Drop":  func(c *Cache) { c.Drop(1); c.Drop(3); c.Drop(2) },
		"Put":   func(c *Cache) { c.Put(4, 0, []byte(text(3))); c.Release(4, 0); c.Drop(4) },
		"Fails": func(c *Cache) { c.Put(4, 0, []byte(text(4))) },
	} {
		c := turned(3)
		empty(c)
		wantCache(t, c, 0, 0)
		wantFiles(t, name, loose(c, 5, 6, 7), 5, 6, 7)
		wantFiles(t, name+": the hand points to 5", loose(c, 8), 6, 7, 8)
		wantFiles(t, name+": the hand points to 6", loose(c, 9), 7, 8, 9)
	}
}

// slotsOf is a full cache of slots of one byte that are not pinned and have marks: the
// place of each is its file and its number. The hand points to the slot number at.
func slotsOf(at int, files ...int) *Cache {
	c := New(len(files))
	for n, file := range files {
		if n == at {
			c.Put(0, 0, nil)
			c.Release(0, 0)
		}
		c.Put(file, n, []byte{1})
	}
	// The slot without bytes is the only one to go. It leaves no room.
	c.Put(0, 1, []byte{1})
	for n, file := range files {
		c.Release(file, n)
	}
	return c
}

func TestP1401Drop(t *testing.T) {
	c := slotsOf(3, 1, 2, 1, 3, 1)
	c.Get(1, 2)
	for _, x := range []struct {
		file, n int
		list    [][2]int
	}{
		{4, 0, [][2]int{{1, 0}, {2, 1}, {1, 2}, {3, 3}, {1, 4}}},
		{-1, 0, [][2]int{{1, 0}, {2, 1}, {1, 2}, {3, 3}, {1, 4}}},
		{1<<32 + 1, 0, [][2]int{{1, 0}, {2, 1}, {1, 2}, {3, 3}, {1, 4}}},
		{1, 2, [][2]int{{2, 1}, {1, 2}, {3, 3}}},
		{1, 0, [][2]int{{2, 1}, {1, 2}, {3, 3}}},
		{3, 1, [][2]int{{2, 1}, {1, 2}}},
		{2, 1, [][2]int{{1, 2}}},
	} {
		if got := c.Drop(x.file); got != x.n {
			t.Errorf("Drop %d = %d, want %d", x.file, got, x.n)
		}
		wantCache(t, c, len(x.list), 1, x.list...)
	}
	c.Release(1, 2)
	if c.Drop(1) != 1 || c.Drop(1) != 0 {
		t.Error("Drop of the last slot")
	}
	wantCache(t, c, 0, 0)
	if New(5).Drop(1) != 0 {
		t.Error("Drop of an empty cache")
	}
}

// The hand goes on to the next slot that remains: the first to go of all that do.
func TestP1401DropTakesTheHandOn(t *testing.T) {
	for _, x := range []struct {
		files      []int
		at, pinned int
		goes       [2]int
	}{
		{[]int{1, 2, 3, 4}, 0, -1, [2]int{2, 1}},
		{[]int{1, 1, 1, 4}, 0, -1, [2]int{4, 3}},
		{[]int{1, 2, 1, 4}, 0, -1, [2]int{2, 1}},
		{[]int{1, 1, 1, 4}, 0, 2, [2]int{1, 2}},
		{[]int{5, 1, 1, 4}, 1, -1, [2]int{4, 3}},
		{[]int{5, 6, 7, 1}, 3, -1, [2]int{5, 0}},
		{[]int{1, 6, 7, 1}, 3, -1, [2]int{6, 1}},
		{[]int{1, 1, 7, 1}, 3, 0, [2]int{1, 0}},
		{[]int{5, 1, 1, 1}, 1, -1, [2]int{5, 0}},
		// What is dropped elsewhere leaves the hand where it is.
		{[]int{1, 1, 7, 8}, 2, -1, [2]int{7, 2}},
		{[]int{5, 6, 1, 1}, 1, -1, [2]int{6, 1}},
		{[]int{1, 6, 1, 8}, 1, -1, [2]int{6, 1}},
	} {
		c := slotsOf(x.at, x.files...)
		if x.pinned >= 0 {
			c.Get(1, x.pinned)
		}
		c.Drop(1)
		if x.pinned >= 0 {
			c.Release(1, x.pinned)
		}
		left := c.List()
		// All have marks, so that the hand goes round once and then evicts.
		c.Put(9, 9, []byte(text(5-len(left))))
		want := append(slices.DeleteFunc(left, func(place [2]int) bool { return place == x.goes }), [2]int{9, 9})
		if !slices.Equal(c.List(), want) {
			t.Errorf("%v, hand at %d, pinned %d: %v, want %v", x.files, x.at, x.pinned, c.List(), want)
		}
	}
}

func TestP1402UsedIsBounded(t *testing.T) {
	for _, room := range []int{-5, 0, 1, 7, 64} {
		r := rand.New(rand.NewSource(int64(room)))
		c := New(room)
		for range 2000 {
			file := r.Intn(9)
			c.Put(file, 0, make([]byte, r.Intn(20)))
			if r.Intn(3) > 0 {
				c.Release(r.Intn(9), 0)
			}
			if c.Used() > max(room, 0) || c.Used() < 0 {
				t.Fatalf("room %d: Used %d", room, c.Used())
			}
		}
	}
}

func TestP1402CachesAreIndependent(t *testing.T) {
	r := rand.New(rand.NewSource(1402))
	pairs := []pair{newPair(20), newPair(20), newPair(9), newPair(0), {&Cache{}, newModel(0)}}
	for range 4000 {
		pairs[r.Intn(len(pairs))].take(t, randomStep(r, 5, 6))
		for _, p := range pairs {
			p.check(t)
		}
	}
	for _, p := range pairs {
		p.probe(t)
	}
}

func TestP1402ZeroCache(t *testing.T) {
	var c Cache
	wantCache(t, &c, 0, 0)
	_, there := c.Get(1, 2)
	wantOK(t, "Get, Release, Drop", there || c.Release(1, 2) || c.Drop(1) != 0, false)
	wantOK(t, "Put of a byte", c.Put(1, 2, []byte{3}), false)
	wantOK(t, "Put of nothing", c.Put(1, 2, nil), true)
	wantCache(t, &c, 0, 1, [2]int{1, 2})
}

func TestP1402ArgumentsAreNeitherChangedNorKept(t *testing.T) {
	c := New(99)
	all := []byte("abcdef")
	c.Put(1, 0, all[:3])
	c.Put(1, 0, all[:5])
	if string(all) != "abcdef" {
		t.Errorf("Put changed its argument: %q", all)
	}
	for i := range all {
		all[i] = '-'
	}
	c.Put(2, 0, all[:0])
	b, _ := c.Get(1, 0)
	wantOK(t, "Get", string(b) == "abc", true)
}

func TestP1402ResultsAreNew(t *testing.T) {
	c := New(99)
	c.Put(1, 0, []byte("abc"))
	c.Put(2, 7, []byte("defg"))
	for range 3 {
		first, _ := c.Get(1, 0)
		second, _ := c.Get(1, 0)
		// All of the memory behind a result is spoilt, its spare capacity too.
		for i := range first[:cap(first)] {
			first[:cap(first)][i] = '-'
		}
		other, _ := c.Get(2, 7)
		wantOK(t, "two results share no memory", string(second) == "abc" && string(other) == "defg", true)
		l, again := c.List(), c.List()
		for i := range l[:cap(l)] {
			l[:cap(l)][i] = [2]int{-1, -1}
		}
		want := [][2]int{{1, 0}, {2, 7}}
		wantOK(t, "two lists share no memory", slices.Equal(again, want) && slices.Equal(c.List(), want), true)
	}
}

func TestP1402AskingChangesNothing(t *testing.T) {
	p := newPair(12)
	for i := range 60 {
		p.take(t, step{"Put", i, 0, text(i % 4)})
		for range 3 {
			p.check(t)
			p.take(t, step{call: "Get", file: i, at: 1})
			p.take(t, step{call: "Release", file: i, at: 1})
			p.take(t, step{call: "Drop", file: i + 1})
		}
		p.take(t, step{call: "Release", file: i - i%3})
	}
	p.probe(t)
}
