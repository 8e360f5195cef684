package budget

import (
	"fmt"
	"math"
	"math/rand"
	"slices"
	"testing"

	"buttery/api"
	"buttery/charge"
)

const most = 1 << 40

var negativeZero = math.Copysign(0, -1)

// amount is bytes and handles.
type amount [2]int

func (a amount) plus(b amount) amount  { return amount{a[0] + b[0], a[1] + b[1]} }
func (a amount) minus(b amount) amount { return amount{a[0] - b[0], a[1] - b[1]} }
func (a amount) within(b amount) bool  { return a[0] <= b[0] && a[1] <= b[1] }
func (a amount) charge() complex128    { return complex(float64(a[0]), float64(a[1])) }

// whole returns the number that a part of a charge is.
func whole(x float64) (int, bool) {
	n := int(x)
	return n, float64(n) == x && 0 <= n && n <= most
}

func amountOf(c complex128) (amount, bool) {
	bytes, ok := whole(real(c))
	handles, fine := whole(imag(c))
	return amount{bytes, handles}, ok && fine
}

// model is the chapter a second time, in integers: each owner has the amounts that it
// took, and those that it gave as negative ones.
type model struct {
	limit amount
	moves map[int][]amount
}

func newModel(room complex128) *model {
	m := &model{moves: map[int][]amount{}}
	if a, ok := amountOf(room); ok {
		m.limit = a
	}
	return m
}

func (m *model) of(who int) (sum amount) {
	for _, a := range m.moves[who] {
		sum = sum.plus(a)
	}
	return sum
}

func (m *model) used() (sum amount) {
	for who := range m.moves {
		sum = sum.plus(m.of(who))
	}
	return sum
}

func (m *model) take(who int, c complex128) bool {
	a, ok := amountOf(c)
	if !ok || !m.used().plus(a).within(m.limit) {
		return false
	}
	m.moves[who] = append(m.moves[who], a)
	return true
}

func (m *model) give(who int, c complex128) bool {
	a, ok := amountOf(c)
	if !ok || !a.within(m.of(who)) {
		return false
	}
	m.moves[who] = append(m.moves[who], amount{}.minus(a))
	return true
}

// state tells the charges of the owners 1 to 3.
func (m *model) state() [3]amount { return [3]amount{m.of(1), m.of(2), m.of(3)} }

// A step is one call that may change the budget.
type step struct {
	call string
	who  int
	c    complex128
}

// pair is a budget and the model that it is held against.
type pair struct {
	b *Budget
	m *model
}

func newPair(room complex128) pair { return pair{New(room), newModel(room)} }

func (p pair) take(t *testing.T, s step) {
	t.Helper()
	var got, want bool
	used := p.m.used()
	switch s.call {
	case "Take":
		got, want = p.b.Take(s.who, s.c), p.m.take(s.who, s.c)
	case "Give":
		got, want = p.b.Give(s.who, s.c), p.m.give(s.who, s.c)
	}
	if got != want {
		t.Fatalf("%v: %t, want %t, with %v of %v used", s, got, want, used, p.m.limit)
	}
	p.check(t, s.who)
}

// check holds what is to be seen of the budget against the model, for one owner more
// than those that have had charges, and P1502.
func (p pair) check(t *testing.T, another int) {
	t.Helper()
	used := p.m.used()
	if got, want := p.b.Used(), used.charge(); !same(got, want) {
		t.Fatalf("Used: %v, want %v", got, want)
	}
	if got, want := p.b.Left(), p.m.limit.minus(used).charge(); !same(got, want) {
		t.Fatalf("Left: %v, want %v", got, want)
	}
	owners := []int{another}
	for who := range p.m.moves {
		owners = append(owners, who)
	}
	for _, who := range owners {
		if got, want := p.b.Of(who), p.m.of(who).charge(); !same(got, want) {
			t.Fatalf("Of(%d): %v, want %v", who, got, want)
		}
	}
	p.checkConsequences(t, owners[1:])
}

func (p pair) checkConsequences(t *testing.T, owners []int) {
	t.Helper()
	var all []complex128
	charged := 0
	for _, who := range owners {
		all = append(all, p.b.Of(who))
		if p.b.Of(who) != 0 {
			charged++
		}
	}
	if got := p.b.Used(); !same(got, charge.Sum(all)) || !charge.Fits(got, p.m.limit.charge()) {
		t.Fatalf("Used: %v, with the limit %v and the charges %v", got, p.m.limit, all)
	}
	if len(p.b.charges) != charged {
		t.Fatalf("%d owners are kept, %d have charges", len(p.b.charges), charged)
	}
}

// same also tells 0 from -0 and holds no NaN equal to anything.
func same(a, b complex128) bool {
	return a == b &&
		math.Signbit(real(a)) == math.Signbit(real(b)) &&
		math.Signbit(imag(a)) == math.Signbit(imag(b))
}

// invalidCharges has every invalid part in either place and in both.
func invalidCharges() (l []complex128) {
	for _, x := range []float64{
		math.NaN(), math.Inf(1), math.Inf(-1),
		-1, -2, -most, -math.MaxFloat64, -math.SmallestNonzeroFloat64, -0.5,
		0.25, 0.5, 1.5, math.SmallestNonzeroFloat64, math.Nextafter(1, 0), math.Nextafter(1, 2),
		math.Nextafter(most, 0), math.Nextafter(most, math.Inf(1)),
		most + 1, 2 * most, 1 << 62, 1 << 63, 1 << 64, math.MaxFloat64,
	} {
		l = append(l, complex(x, 0), complex(x, 1), complex(0, x), complex(1, x), complex(x, x))
	}
	return l
}

// stepsUpTo are all calls of four owners with parts up to n; the fourth one never has a
// charge.
func stepsUpTo(n int) (l []step) {
	for who := range 4 {
		for i := range (n + 1) * (n + 1) {
			c := amount{i / (n + 1), i % (n + 1)}.charge()
			if who > 0 {
				l = append(l, step{"Take", who, c})
			}
			l = append(l, step{"Give", who, c})
		}
		for _, bad := range []complex128{-1, -1i, 0.5, 0.5i, complex(math.NaN(), 0), complex(1, math.NaN()), complex(math.Inf(1), 0), complex(0, most+1)} {
			l = append(l, step{"Take", who, bad}, step{"Give", who, bad})
		}
	}
	return l
}

// Every call in every state that small limits allow.
func TestP1501EveryState(t *testing.T) {
	for _, x := range []struct {
		room   complex128
		states int
	}{
		{0, 1}, {1, 4}, {1i, 4}, {1 + 1i, 16}, {2, 10}, {2i, 10}, {2 + 1i, 40}, {1 + 2i, 40}, {2 + 2i, 100}, {3 + 1i, 80},
	} {
		ways := map[[3]amount][]step{{}: nil}
		queue := [][]step{nil}
		for len(queue) > 0 {
			way := queue[0]
			queue = queue[1:]
			for _, s := range stepsUpTo(3) {
				p := newPair(x.room)
				for _, before := range way {
					p.take(t, before)
				}
				p.take(t, s)
				state := p.m.state()
				if _, known := ways[state]; !known {
					ways[state] = append(slices.Clone(way), s)
					queue = append(queue, ways[state])
				}
			}
		}
		if len(ways) != x.states {
			t.Errorf("room %v: %d states, want %d", x.room, len(ways), x.states)
		}
	}
}

// randomPart returns a part that is often 0 or as large as it may be, and now and then
// too large.
func randomPart(r *rand.Rand, room int) float64 {
	switch r.Intn(8) {
	case 0, 1:
		return 0
	case 2:
		return float64(room)
	case 3:
		return float64(room) + float64(r.Intn(2))
	}
	return float64(r.Intn(room/(1+r.Intn(20)) + 1))
}

func randomStep(r *rand.Rand, p pair, takes int) step {
	owners := []int{0, 1, -1, 7, math.MinInt, math.MaxInt, 1 << 32, 1<<32 + 1}
	s := step{call: "Give", who: owners[r.Intn(len(owners))]}
	room := p.m.of(s.who)
	if r.Intn(6) < takes {
		s.call = "Take"
		room = p.m.limit.minus(p.m.used())
	}
	s.c = complex(randomPart(r, room[0]), randomPart(r, room[1]))
	if bad := invalidCharges(); r.Intn(10) == 0 {
		s.c = bad[r.Intn(len(bad))]
	}
	return s
}

func TestP1501RandomScripts(t *testing.T) {
	limits := []int{0, 1, 5, 100, 1 << 20, 1 << 32, most - 1, most}
	for seed := range 192 {
		r := rand.New(rand.NewSource(int64(seed)))
		p := newPair(amount{limits[seed%8], limits[seed/8%8]}.charge())
		for i := range 200 {
			// At first the budget fills up, then it empties.
			p.take(t, randomStep(r, p, 4-i/100*2))
		}
	}
}

func TestP1501Example(t *testing.T) {
	b := New(5)
	if b.Take(1, 1i) {
		t.Error("with room 5, Take of 1i is true")
	}
	if !b.Take(1, 5) || b.Of(1) != 5 {
		t.Errorf("with room 5, Take of 5 is false; Of is %v", b.Of(1))
	}
}

func TestP1501OwnersShareTheLimit(t *testing.T) {
	p := newPair(10 + 3i)
	for i, x := range []struct {
		s    step
		ok   bool
		used complex128
	}{
		{step{"Take", 1, 4 + 1i}, true, 4 + 1i},
		{step{"Take", 2, 6 + 1i}, true, 10 + 2i},
		{step{"Take", 3, 1}, false, 10 + 2i},
		{step{"Take", 3, 1i}, true, 10 + 3i},
		{step{"Give", 1, 5}, false, 10 + 3i},
		{step{"Give", 1, 2i}, false, 10 + 3i},
		{step{"Give", 3, 1}, false, 10 + 3i},
		{step{"Give", 4, 1}, false, 10 + 3i},
		{step{"Give", 4, 0}, true, 10 + 3i},
		{step{"Give", 1, 3}, true, 7 + 3i},
		{step{"Take", 2, 4}, false, 7 + 3i},
		{step{"Take", 2, 3 + 1i}, false, 7 + 3i},
		{step{"Take", 2, 3}, true, 10 + 3i},
		{step{"Give", 2, 9 + 1i}, true, 1 + 2i},
		{step{"Give", 1, 1 + 1i}, true, 1i},
		{step{"Give", 3, 1i}, true, 0},
	} {
		before := p.b.Used()
		p.take(t, x.s)
		if p.b.Used() != x.used || !x.ok && before != x.used {
			t.Errorf("%d: %v: %v used, want %v", i, x.s, p.b.Used(), x.used)
		}
	}
}

func TestP1501ResultsOfTakeAndGive(t *testing.T) {
	b := New(2 + 1i)
	for i, x := range []struct{ got, want bool }{
		{b.Take(1, 0), true}, {b.Give(1, 0), true}, {b.Give(1, 1), false},
		{b.Take(1, 3), false}, {b.Take(1, 2i), false}, {b.Take(1, 3+2i), false},
		{b.Take(1, 2), true}, {b.Take(1, 1), false}, {b.Take(2, 1), false}, {b.Take(2, 1i), true}, {b.Take(2, 0), true},
		{b.Give(2, 2), false}, {b.Give(2, 1), false}, {b.Give(1, 1i), false}, {b.Give(2, 1i), true}, {b.Give(2, 1i), false},
		{b.Give(1, 3), false}, {b.Give(1, 2), true}, {b.Give(1, 2), false}, {b.Take(-1, 2+1i), true}, {b.Give(-1, 2+1i), true},
	} {
		if x.got != x.want {
			t.Errorf("call %d: %t", i, x.got)
		}
	}
}

// Every limit is reached by one owner and by two, and never exceeded.
func TestP1501Limits(t *testing.T) {
	numbers := []int{0, 1, 2, 3, 1 << 20, 1 << 31, 1<<32 + 1, most/2 + 1, most - 1, most}
	for _, bytes := range numbers {
		for _, handles := range numbers {
			room := amount{bytes, handles}.charge()
			half := amount{bytes / 2, handles / 2}
			l := []step{
				{"Take", 1, room}, {"Take", 1, 1}, {"Take", 2, 1}, {"Take", 1, 1i}, {"Take", 2, 1i}, {"Take", 2, room}, {"Take", 2, most},
				{"Take", 2, 0}, {"Give", 2, room}, {"Give", 1, room}, {"Give", 1, room},
				{"Take", 1, half.charge()}, {"Take", 2, room - half.charge() + 1}, {"Take", 2, room - half.charge() + 1i},
				{"Take", 2, room - half.charge()}, {"Take", 2, 1}, {"Take", 1, 1i}, {"Give", 1, room - half.charge() + 1}, {"Give", 1, half.charge()},
			}
			p := newPair(room)
			p.check(t, 1)
			for _, s := range l {
				p.take(t, s)
			}
		}
	}
}

// charge.Sum stops at MaxPart: charges that are more than MaxPart together do not fit
// into it.
func TestP1501ChargesAboveMaxPartDoNotFit(t *testing.T) {
	room := complex(api.MaxPart, api.MaxPart)
	for _, c := range []complex128{1, 1i, 1 + 1i, api.MaxPart, complex(0, api.MaxPart), room} {
		b := New(room)
		if !b.Take(1, room) || b.Take(1, c) || b.Take(2, c) || b.Of(2) != 0 || b.Used() != room || b.Left() != 0 {
			t.Errorf("beside all that there is, Take of %v: %v used", c, b.Used())
		}
		if !b.Give(1, c) || !b.Take(2, c) || b.Take(1, c) || b.Of(2) != c || b.Used() != room {
			t.Errorf("Take of %v that was given back: %v used", c, b.Used())
		}
	}
}

func TestP1501RoomThatIsNoCharge(t *testing.T) {
	for _, room := range append(invalidCharges(), 0, complex(negativeZero, negativeZero)) {
		p := newPair(room)
		p.check(t, 1)
		for _, s := range []step{
			{"Take", 1, 1}, {"Take", 1, 1i}, {"Take", 1, room}, {"Take", 1, 0}, {"Give", 1, 0}, {"Give", 1, 1}, {"Give", 1, room},
		} {
			p.take(t, s)
		}
		if p.b.Take(1, 1) || p.b.Take(1, 1i) || !p.b.Take(1, 0) || !same(p.b.Left(), 0) {
			t.Errorf("room %v is not 0", room)
		}
	}
}

func TestP1501InvalidChargesChangeNothing(t *testing.T) {
	for _, room := range []complex128{0, 5 + 5i, complex(most, most)} {
		for _, taken := range []complex128{0, 3, 2i, 4 + 4i} {
			for _, bad := range invalidCharges() {
				p := newPair(room)
				p.take(t, step{"Take", 1, taken})
				used, of := p.b.Used(), p.b.Of(1)
				for who := range 3 {
					p.take(t, step{"Take", who, bad})
					p.take(t, step{"Give", who, bad})
					if p.b.Take(who, bad) || p.b.Give(who, bad) {
						t.Errorf("%v is taken or given", bad)
					}
				}
				if p.b.Used() != used || p.b.Of(1) != of {
					t.Errorf("%v: %v used of %v, %v by 1", bad, p.b.Used(), room, p.b.Of(1))
				}
			}
		}
	}
}

func TestP1501NegativeZeroCountsAsZero(t *testing.T) {
	for _, room := range []complex128{complex(5, negativeZero), complex(negativeZero, 5), complex(negativeZero, negativeZero), 5 + 5i} {
		for _, c := range []complex128{complex(negativeZero, negativeZero), complex(negativeZero, 5), complex(5, negativeZero)} {
			p := newPair(room)
			p.check(t, 1)
			p.take(t, step{"Take", 1, c})
			p.take(t, step{"Take", 2, complex(negativeZero, negativeZero)})
			p.take(t, step{"Give", 1, complex(negativeZero, negativeZero)})
			p.take(t, step{"Give", 3, complex(negativeZero, negativeZero)})
			p.take(t, step{"Give", 1, c})
		}
	}
}

func TestP1501OwnersAreAnyNumbers(t *testing.T) {
	owners := []int{math.MinInt, math.MinInt + 1, -1 << 32, -1 << 31, -2, -1, 0, 1, 2, 1 << 31, 1 << 32, 1<<32 + 1, 1 << 53, 1<<53 + 1, math.MaxInt - 1, math.MaxInt}
	p := newPair(1000 + 1000i)
	for i, who := range owners {
		p.take(t, step{"Take", who, amount{i + 1, 2 * i}.charge()})
	}
	for i, who := range owners {
		if got, want := p.b.Of(who), (amount{i + 1, 2 * i}).charge(); got != want {
			t.Errorf("Of(%d): %v, want %v", who, got, want)
		}
		p.take(t, step{"Give", who, 1})
	}
	if got := p.b.Used(); got != 120+240i {
		t.Errorf("Used: %v", got)
	}
}

func TestP1501ManyOwners(t *testing.T) {
	const owners = 200_000
	b := New(3*owners + owners*1i)
	for who := range owners {
		if !b.Take(-who, 3+1i) {
			t.Fatalf("Take for %d is false", -who)
		}
	}
	if b.Used() != 3*owners+owners*1i || b.Left() != 0 || b.Take(1, 1) || b.Take(1, 1i) {
		t.Errorf("Used: %v, Left: %v", b.Used(), b.Left())
	}
	for who := range owners {
		if b.Of(-who) != 3+1i || !b.Give(-who, 3+1i) || b.Give(-who, 1) {
			t.Fatalf("Of(%d): %v", -who, b.Of(-who))
		}
	}
	if b.Used() != 0 || b.Left() != 3*owners+owners*1i || len(b.charges) != 0 {
		t.Errorf("Used: %v, Left: %v, %d owners are kept", b.Used(), b.Left(), len(b.charges))
	}
}

func TestP1502BudgetsAreIndependent(t *testing.T) {
	for seed := range 50 {
		r := rand.New(rand.NewSource(int64(seed)))
		pairs := []pair{newPair(20 + 10i), newPair(20 + 10i), newPair(7)}
		for range 100 {
			p := pairs[r.Intn(len(pairs))]
			p.take(t, randomStep(r, p, 3))
			for _, other := range pairs {
				other.check(t, 1)
			}
		}
	}
}

func TestP1502ZeroBudget(t *testing.T) {
	p := pair{&Budget{}, newModel(0)}
	p.check(t, 1)
	for _, s := range stepsUpTo(2) {
		p.take(t, s)
	}
}

// The same calls have the same results, whatever was done with other budgets before.
func TestP1502ResultsRepeat(t *testing.T) {
	script := func() string {
		r := rand.New(rand.NewSource(1))
		p := newPair(50 + 50i)
		told := ""
		for range 300 {
			p.take(t, randomStep(r, p, 3))
			told += fmt.Sprintln(p.b.Used(), p.b.Left(), p.b.Of(0), p.b.Of(1), p.b.Of(-1))
		}
		return told
	}
	first := script()
	for range 3 {
		if script() != first {
			t.Fatal("a script has another result when it is run again")
		}
	}
}

func TestP1502AskingChangesNothing(t *testing.T) {
	b := New(9 + 9i)
	b.Take(1, 2+3i)
	for range 3 {
		if b.Of(1) != 2+3i || b.Of(2) != 0 || b.Used() != 2+3i || b.Left() != 7+6i || len(b.charges) != 1 {
			t.Fatalf("Of: %v, %v, Used: %v, Left: %v, %d owners are kept", b.Of(1), b.Of(2), b.Used(), b.Left(), len(b.charges))
		}
	}
}
