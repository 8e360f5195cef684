package buffers

import (
	"fmt"
	"math"
	"math/rand"
	"slices"
	"testing"

	"buttery/api"
)

// model is the chapter a second time: the buffers are lists of the writes in them.
type model struct {
	budget, most int
	full         [][]int
	active       []int
}

func newModel(budget, most int) *model {
	m := &model{budget: budget, most: most}
	switch {
	case budget < 1:
		m.budget = 1
	case budget > 1073741824:
		m.budget = 1073741824
	}
	switch {
	case most < 1:
		m.most = 1
	case most > 100:
		m.most = 100
	}
	return m
}

func sum(l []int) (n int) {
	for _, x := range l {
		n += x
	}
	return n
}

func written(n int) int {
	if n < 0 {
		return 0
	}
	return n
}

func (m *model) overflows(n int) bool {
	return sum(m.active) != 0 && sum(append(slices.Clone(m.active), n)) > m.budget
}

func (m *model) ask(n int) int {
	n = written(n)
	if n > m.budget {
		return api.Reject
	}
	if m.overflows(n) && len(m.full) >= m.most {
		return api.Stall
	}
	return api.Go
}

func (m *model) add(n int) int {
	verdict := m.ask(n)
	n = written(n)
	if verdict == api.Go {
		if m.overflows(n) {
			m.full, m.active = append(m.full, m.active), nil
		}
		m.active = append(m.active, n)
	}
	return verdict
}

func (m *model) seal() bool {
	if sum(m.active) == 0 || len(m.full) >= m.most {
		return false
	}
	m.full, m.active = append(m.full, m.active), nil
	return true
}

func (m *model) done() bool {
	if len(m.full) == 0 {
		return false
	}
	m.full = m.full[1:]
	return true
}

func (m *model) sizes() []int {
	var l []int
	for _, buffer := range m.full {
		l = append(l, sum(buffer))
	}
	return append(l, sum(m.active))
}

// A step is one call that may change the buffers.
type step struct {
	call string
	n    int
}

// pair is the buffers and the model that they are held against.
type pair struct {
	b *Buffers
	m *model
}

func newPair(budget, most int) pair { return pair{New(budget, most), newModel(budget, most)} }

func (p pair) take(t *testing.T, s step) {
	t.Helper()
	var got, want any
	switch s.call {
	case "Ask":
		got, want = p.b.Ask(s.n), p.m.ask(s.n)
	case "Add":
		got, want = p.b.Add(s.n), p.m.add(s.n)
	case "Seal":
		got, want = p.b.Seal(), p.m.seal()
	case "Done":
		got, want = p.b.Done(), p.m.done()
	}
	if got != want {
		t.Fatalf("%s %d: %v, want %v, at %v", s.call, s.n, got, want, p.m.sizes())
	}
	p.check(t)
}

// check holds what is to be seen of the buffers against the model, and P1002's bound.
func (p pair) check(t *testing.T) {
	t.Helper()
	want := p.m.sizes()
	if got := p.b.Sizes(); !slices.Equal(got, want) {
		t.Fatalf("Sizes: %v, want %v", got, want)
	}
	got := p.b.Bytes()
	if got != sum(want) {
		t.Fatalf("Bytes: %d, want %d", got, sum(want))
	}
	if got > p.m.budget*(p.m.most+1) {
		t.Fatalf("Bytes: %d, above %d * (%d + 1)", got, p.m.budget, p.m.most)
	}
}

// steps are all calls with numbers around 0 and around the budget.
func steps(budget int) []step {
	l := []step{{"Seal", 0}, {"Done", 0}}
	for _, n := range []int{math.MinInt, -budget - 1, -budget, -1, budget + 2, 1 << 32, 1<<32 + 1, math.MaxInt - 1, math.MaxInt} {
		l = append(l, step{"Ask", n}, step{"Add", n})
	}
	for n := range budget + 2 {
		l = append(l, step{"Ask", n}, step{"Add", n})
	}
	return l
}

// Every call in every state that small budgets allow.
func TestP1001EveryState(t *testing.T) {
	for _, x := range []struct{ budget, most, states int }{
		{1, 1, 4}, {1, 3, 8}, {2, 1, 9}, {2, 3, 45}, {3, 1, 16}, {3, 3, 160}, {5, 2, 186},
	} {
		ways := map[string][]step{fmt.Sprint([]int{0}): nil}
		queue := [][]step{nil}
		for len(queue) > 0 {
			way := queue[0]
			queue = queue[1:]
			for _, s := range steps(x.budget) {
				p := newPair(x.budget, x.most)
				for _, before := range way {
					p.take(t, before)
				}
				p.take(t, s)
				state := fmt.Sprint(p.m.sizes())
				if _, known := ways[state]; !known {
					ways[state] = append(slices.Clone(way), s)
					queue = append(queue, ways[state])
				}
			}
		}
		if len(ways) != x.states {
			t.Errorf("budget %d, most %d: %d states, want %d", x.budget, x.most, len(ways), x.states)
		}
	}
}

func TestP1001RandomScripts(t *testing.T) {
	for seed := range 200 {
		r := rand.New(rand.NewSource(int64(seed)))
		budget, most := 1+r.Intn(40), 1+r.Intn(8)
		p := newPair(budget, most)
		for range 500 {
			s := step{n: r.Intn(budget+3) - 1}
			// Some scripts fill the buffers up, others empty them.
			switch i := r.Intn(12); {
			case i == 0:
				s.call = "Seal"
			case i <= 1+seed%4:
				s.call = "Done"
			case i <= 6:
				s.call = "Ask"
			default:
				s.call = "Add"
			}
			p.take(t, s)
		}
	}
}

func TestP1001NewLimits(t *testing.T) {
	for _, budget := range []struct{ given, used int }{
		{math.MinInt, 1}, {-1 << 32, 1}, {-5, 1}, {-1, 1}, {0, 1}, {1, 1}, {2, 2}, {10, 10}, {1<<30 - 1, 1<<30 - 1},
		{1 << 30, 1 << 30}, {1<<30 + 1, 1 << 30}, {1 << 31, 1 << 30}, {1 << 32, 1 << 30}, {1<<32 + 5, 1 << 30}, {math.MaxInt, 1 << 30},
	} {
		for _, most := range []struct{ given, used int }{
			{math.MinInt, 1}, {-1 << 32, 1}, {-1, 1}, {0, 1}, {1, 1}, {2, 2}, {99, 99}, {100, 100}, {101, 100}, {1 << 32, 100}, {1<<32 + 5, 100}, {math.MaxInt, 100},
		} {
			b := New(budget.given, most.given)
			if got := b.Sizes(); !slices.Equal(got, []int{0}) || b.Bytes() != 0 {
				t.Fatalf("New(%d, %d): Sizes %v, Bytes %d", budget.given, most.given, got, b.Bytes())
			}
			if got := b.Ask(budget.used + 1); got != api.Reject {
				t.Errorf("New(%d, %d): Ask(%d) = %d", budget.given, most.given, budget.used+1, got)
			}
			for i := range most.used + 1 {
				if got := b.Add(budget.used); got != api.Go {
					t.Errorf("New(%d, %d): write %d: %d", budget.given, most.given, i, got)
				}
			}
			if got := b.Add(1); got != api.Stall {
				t.Errorf("New(%d, %d): a write that overflows all: %d", budget.given, most.given, got)
			}
			if want := slices.Repeat([]int{budget.used}, most.used+1); !slices.Equal(b.Sizes(), want) || b.Bytes() != budget.used*(most.used+1) {
				t.Errorf("New(%d, %d): Sizes %v, Bytes %d", budget.given, most.given, b.Sizes(), b.Bytes())
			}
		}
	}
}

func TestP1001Example(t *testing.T) {
	if got := New(4, 1).Ask(5); got != api.Reject {
		t.Errorf("Ask(5) = %d", got)
	}
}

func verdicts(t *testing.T, b *Buffers, n, want int) {
	t.Helper()
	before := b.Sizes()
	if got := b.Ask(n); got != want {
		t.Errorf("Ask(%d) = %d, want %d, at %v", n, got, want, before)
	}
	if got := b.Sizes(); !slices.Equal(got, before) {
		t.Errorf("Ask(%d) changed %v to %v", n, before, got)
	}
	if got := b.Add(n); got != want {
		t.Errorf("Add(%d) = %d, want %d, at %v", n, got, want, before)
	}
	if got := b.Sizes(); want != api.Go && !slices.Equal(got, before) {
		t.Errorf("Add(%d) changed %v to %v", n, before, got)
	}
}

func sizes(t *testing.T, b *Buffers, want ...int) {
	t.Helper()
	if got := b.Sizes(); !slices.Equal(got, want) {
		t.Errorf("Sizes %v, want %v", got, want)
	}
	if got := b.Bytes(); got != sum(want) {
		t.Errorf("Bytes %d, want %d", got, sum(want))
	}
}

func TestP1001VerdictsInTheirOrder(t *testing.T) {
	b := New(4, 1)
	verdicts(t, b, 5, api.Reject)
	verdicts(t, b, math.MaxInt, api.Reject)
	verdicts(t, b, 3, api.Go)
	verdicts(t, b, 5, api.Reject)
	verdicts(t, b, 1, api.Go)
	sizes(t, b, 4)
	verdicts(t, b, 4, api.Go)
	sizes(t, b, 4, 4)
	// All is full: too large a write is rejected first, an empty one has room.
	verdicts(t, b, 5, api.Reject)
	verdicts(t, b, math.MaxInt, api.Reject)
	verdicts(t, b, 4, api.Stall)
	verdicts(t, b, 1, api.Stall)
	verdicts(t, b, 0, api.Go)
	verdicts(t, b, -1, api.Go)
	verdicts(t, b, math.MinInt, api.Go)
	sizes(t, b, 4, 4)
}

func TestP1001StallEndsWithDone(t *testing.T) {
	b := New(4, 2)
	for range 3 {
		verdicts(t, b, 3, api.Go)
	}
	sizes(t, b, 3, 3, 3)
	verdicts(t, b, 2, api.Stall)
	verdicts(t, b, 1, api.Go)
	sizes(t, b, 3, 3, 4)
	if !b.Done() {
		t.Error("Done")
	}
	sizes(t, b, 3, 4)
	verdicts(t, b, 2, api.Go)
	sizes(t, b, 3, 4, 2)
	verdicts(t, b, 4, api.Stall)
}

// A write overflows only where the active buffer is not empty: even at its budget, and
// with as many full buffers as may be, an empty one takes a write.
func TestP1001EmptyActiveBufferTakesAll(t *testing.T) {
	b := New(4, 1)
	verdicts(t, b, 2, api.Go)
	if !b.Seal() {
		t.Error("Seal")
	}
	sizes(t, b, 2, 0)
	verdicts(t, b, 0, api.Go)
	verdicts(t, b, 5, api.Reject)
	verdicts(t, b, 4, api.Go)
	sizes(t, b, 2, 4)
}

func TestP1001NegativeWritesCountAsZero(t *testing.T) {
	for _, n := range []int{0, -1, -4, -5, -1 << 30, -1 << 32, math.MinInt + 1, math.MinInt} {
		b := New(4, 1)
		verdicts(t, b, n, api.Go)
		sizes(t, b, 0)
		if b.Seal() {
			t.Errorf("Seal after a write of %d bytes", n)
		}
		verdicts(t, b, 4, api.Go)
		verdicts(t, b, n, api.Go)
		sizes(t, b, 4)
		verdicts(t, b, 4, api.Go)
		verdicts(t, b, n, api.Go)
		sizes(t, b, 4, 4)
	}
}

func TestP1001Seal(t *testing.T) {
	b := New(4, 2)
	if b.Seal() {
		t.Error("Seal of new buffers")
	}
	sizes(t, b, 0)
	for n, want := range [][]int{{1, 0}, {1, 2, 0}} {
		verdicts(t, b, n+1, api.Go)
		if !b.Seal() {
			t.Errorf("Seal %d", n)
		}
		sizes(t, b, want...)
		if b.Seal() {
			t.Errorf("Seal %d a second time", n)
		}
		sizes(t, b, want...)
	}
	verdicts(t, b, 3, api.Go)
	if b.Seal() {
		t.Error("Seal with as many full buffers as may be")
	}
	sizes(t, b, 1, 2, 3)
	if !b.Done() || !b.Seal() {
		t.Error("Done and Seal")
	}
	sizes(t, b, 2, 3, 0)
}

func TestP1001DoneRemovesTheOldest(t *testing.T) {
	b := New(9, 5)
	if b.Done() {
		t.Error("Done of new buffers")
	}
	for n := range 5 {
		b.Add(n + 1)
		b.Seal()
	}
	b.Add(7)
	for n, want := range [][]int{{2, 3, 4, 5, 7}, {3, 4, 5, 7}, {4, 5, 7}, {5, 7}, {7}} {
		if !b.Done() {
			t.Errorf("Done %d", n)
		}
		sizes(t, b, want...)
	}
	for range 2 {
		if b.Done() {
			t.Error("Done with an active buffer only")
		}
		sizes(t, b, 7)
	}
}

func TestP1002BytesAreBounded(t *testing.T) {
	for _, x := range []struct{ budget, most int }{{1, 1}, {7, 3}, {64, 16}, {1<<30 - 1, 99}, {1 << 30, 100}} {
		bound := x.budget * (x.most + 1)
		for _, n := range []int{1 + x.budget/7, 1 + x.budget/2, x.budget} {
			b := New(x.budget, x.most)
			for b.Add(n) == api.Go {
				if b.Bytes() > bound {
					t.Fatalf("budget %d, most %d: %d bytes", x.budget, x.most, b.Bytes())
				}
			}
			if n == x.budget && b.Bytes() != bound {
				t.Errorf("budget %d, most %d: %d bytes, want %d", x.budget, x.most, b.Bytes(), bound)
			}
		}
	}
}

func randomStep(r *rand.Rand, budget int) step {
	return step{[]string{"Ask", "Add", "Add", "Seal", "Done"}[r.Intn(5)], r.Intn(budget+3) - 1}
}

func TestP1002ValuesAreIndependent(t *testing.T) {
	r := rand.New(rand.NewSource(1002))
	pairs := []pair{newPair(6, 3), newPair(6, 3), newPair(4, 9), newPair(0, 0)}
	for range 3000 {
		pairs[r.Intn(len(pairs))].take(t, randomStep(r, 6))
		for _, p := range pairs {
			p.check(t)
		}
	}
}

// A copy of a value is another value, whichever of the two goes on.
func TestP1002CopiesAreIndependent(t *testing.T) {
	r := rand.New(rand.NewSource(1003))
	for range 300 {
		p := newPair(6, 4)
		for range r.Intn(20) {
			p.take(t, randomStep(r, 6))
		}
		b, m := *p.b, *p.m
		m.full, m.active = slices.Clone(m.full), slices.Clone(m.active)
		pairs := []pair{p, {&b, &m}}
		for range 20 {
			pairs[r.Intn(2)].take(t, randomStep(r, 6))
			pairs[0].check(t)
			pairs[1].check(t)
		}
	}
}

func TestP1002SizesAreNew(t *testing.T) {
	p := newPair(6, 4)
	for i := range 40 {
		first, second := p.b.Sizes(), p.b.Sizes()
		want := slices.Clone(first)
		// All of the memory behind a result is spoilt, its spare capacity too.
		for at := range first[:cap(first)] {
			first[:cap(first)][at] = 99
		}
		if !slices.Equal(second, want) {
			t.Fatalf("two results share memory: %v, want %v", second, want)
		}
		p.check(t)
		p.take(t, []step{{"Add", 4}, {"Add", 3}, {"Done", 0}, {"Add", 1}, {"Seal", 0}}[i%5])
	}
}

func TestP1002AskingChangesNothing(t *testing.T) {
	p := newPair(6, 2)
	for i := range 30 {
		for _, n := range []int{math.MinInt, -1, 0, 1, 6, 7, math.MaxInt} {
			for range 2 {
				p.take(t, step{"Ask", n})
				p.check(t)
			}
		}
		p.take(t, []step{{"Add", 4}, {"Add", 3}, {"Add", 5}, {"Done", 0}}[i%4])
	}
}
