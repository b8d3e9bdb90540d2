package graph_test

import (
	"fmt"
	"math"
	"slices"
	"testing"

	"vivarium/graph"
)

const all = math.MaxUint64

// chance: numbers that look mixed, the same ones for the same seed.
type chance uint64

// next: the next 64 mixed bits.
func (c *chance) next() uint64 {
	*c = *c*6364136223846793005 + 1442695040888963407
	high := uint64(*c) >> 32
	*c = *c*6364136223846793005 + 1442695040888963407
	return high<<32 | uint64(*c)>>32
}

// below: the next number from 0 on, below n.
func (c *chance) below(n int) int {
	return int(c.next()>>1) % n
}

// one: the next one of l.
func one[T any](c *chance, l []T) T {
	return l[c.below(len(l))]
}

// set: which of the numbers from 0 to 63 it has.
type set [64]bool

// setOf: the set that s stands for, halved again and again as numbers are written in binary digits.
func setOf(s uint64) set {
	var out set
	for c := range out {
		out[c] = s%2 == 1
		s /= 2
	}
	return out
}

// number: what stands for the set, a sum of powers of 2.
func (s set) number() uint64 {
	sum, power := uint64(0), uint64(1)
	for _, has := range s {
		if has {
			sum += power
		}
		power *= 2
	}
	return sum
}

// fits: has s all of with, and nothing of without?
func (s set) fits(with, without set) bool {
	for c := range s {
		if with[c] && !s[c] || without[c] && s[c] {
			return false
		}
	}
	return true
}

// wrong: numbers that may not be in a set.
var wrong = []int{math.MinInt, math.MinInt + 1, math.MinInt + 63, math.MinInt32, -1 << 32, -129, -128, -65, -64, -63, -32, -2, -1, 64, 65, 66, 67, 69, 126, 127, 128, 129, 255, 256, 1 << 16, math.MaxInt32, 1<<32 - 1, 1 << 32, 1<<32 + 1, 1<<32 + 63, math.MaxInt - 1, math.MaxInt}

// comps: numbers to ask with, all that may be and wrong ones.
func comps() []int {
	var out []int
	for c := range 64 {
		out = append(out, c)
	}
	return append(out, wrong...)
}

// sigs: sets of few components and of many.
func sigs() []uint64 {
	return []uint64{0, 1, 2, 3, 4, 5, 6, 7, 8, 9, 18, 0xff, 1 << 31, 1 << 32, 1 << 62, 1 << 63, 1<<63 | 1, 1<<32 - 1, 0xffffffff00000000, all - 1, all >> 1, all, 0xaaaaaaaaaaaaaaaa, 0x5555555555555555}
}

// notThere: places that a graph of n nodes has not.
func notThere(n int) []int {
	return []int{math.MinInt, math.MinInt + 1, -1 << 32, -n - 1, -n, -64, -2, -1, n, n + 1, n + 2, 2*n + 1, n + 64, n + 1<<16, n + 1<<32, 1 << 62, math.MaxInt - 1, math.MaxInt}
}

// twin: a graph by the document's words: sets, in the order in which they came.
type twin struct {
	sets []set
}

func (w *twin) find(s set) (int, bool) {
	for n, x := range w.sets {
		if x == s {
			return n, true
		}
	}
	return 0, false
}

func (w *twin) node(s set) int {
	if n, ok := w.find(s); ok {
		return n
	}
	w.sets = append(w.sets, s)
	return len(w.sets) - 1
}

// put: the node of the set of n in which comp is, or is not.
func (w *twin) put(n, comp int, in bool) int {
	if n < 0 || n >= len(w.sets) {
		return -1
	}
	s := w.sets[n]
	if 0 <= comp && comp <= 63 {
		s[comp] = in
	}
	return w.node(s)
}

func (w *twin) sigs(with, without set) []int {
	var l []int
	for n, s := range w.sets {
		if s.fits(with, without) {
			l = append(l, n)
		}
	}
	return l
}

// pair: a graph and its twin, which are asked the same.
type pair struct {
	t *testing.T
	g *graph.Graph
	w *twin
}

// made: what New makes, and nodes of these sets.
func made(t *testing.T, sets ...uint64) *pair {
	t.Helper()
	p := &pair{t, graph.New(), &twin{[]set{{}}}}
	p.len()
	for _, s := range sets {
		p.node(s)
	}
	return p
}

func (p *pair) len() {
	p.t.Helper()
	if got := p.g.Len(); got != len(p.w.sets) {
		p.t.Fatalf("Len is %d, not %d", got, len(p.w.sets))
	}
}

// told: a call told got, and the twin want; and there are as many nodes as the twin has.
func (p *pair) told(got, want int, name string) int {
	p.t.Helper()
	if got != want {
		p.t.Fatalf("%s = %d, not %d", name, got, want)
	}
	p.len()
	return got
}

func (p *pair) node(sig uint64) int {
	p.t.Helper()
	return p.told(p.g.Node(sig), p.w.node(setOf(sig)), fmt.Sprintf("Node(%#x)", sig))
}

func (p *pair) with(n, comp int) int {
	p.t.Helper()
	return p.told(p.g.With(n, comp), p.w.put(n, comp, true), fmt.Sprintf("With(%d, %d)", n, comp))
}

func (p *pair) without(n, comp int) int {
	p.t.Helper()
	return p.told(p.g.Without(n, comp), p.w.put(n, comp, false), fmt.Sprintf("Without(%d, %d)", n, comp))
}

func (p *pair) find(sig uint64) {
	p.t.Helper()
	want, is := p.w.find(setOf(sig))
	if got, ok := p.g.Find(sig); got != want || ok != is {
		p.t.Fatalf("Find(%#x) = %d, %v; not %d, %v", sig, got, ok, want, is)
	}
	p.len()
}

func (p *pair) sig(n int) {
	p.t.Helper()
	var want uint64
	is := n >= 0 && n < len(p.w.sets)
	if is {
		want = p.w.sets[n].number()
	}
	if got, ok := p.g.Sig(n); got != want || ok != is {
		p.t.Fatalf("Sig(%d) = %#x, %v; not %#x, %v", n, got, ok, want, is)
	}
}

func (p *pair) sigs(with, without uint64) {
	p.t.Helper()
	want := p.w.sigs(setOf(with), setOf(without))
	if got := p.g.Sigs(with, without); !slices.Equal(got, want) {
		p.t.Fatalf("Sigs(%#x, %#x) = %v, not %v", with, without, got, want)
	}
	p.len()
}

// kept: each node has the set and the place that it had, and each set is told to have that node alone.
func (p *pair) kept() {
	p.t.Helper()
	p.len()
	for n, s := range p.w.sets {
		sig := s.number()
		if got, ok := p.g.Sig(n); got != sig || !ok {
			p.t.Fatalf("Sig(%d) = %#x, %v; not %#x", n, got, ok, sig)
		}
		if got, ok := p.g.Find(sig); got != n || !ok {
			p.t.Fatalf("Find(%#x) = %d, %v; not %d", sig, got, ok, n)
		}
	}
}

// whole: all that can be asked without making a node.
func (p *pair) whole() {
	p.t.Helper()
	p.kept()
	for _, n := range notThere(len(p.w.sets)) {
		p.sig(n)
	}
	for _, s := range sigs() {
		p.find(s)
		p.sigs(s, 0)
		p.sigs(0, s)
		p.sigs(s, ^s)
	}
	for n := range min(len(p.w.sets), 70) {
		if got := p.g.Node(p.w.sets[n].number()); got != n {
			p.t.Fatalf("Node of the set of %d is %d", n, got)
		}
	}
	p.len()
}

// is: is this number the one that is asked for?
func is(t *testing.T, name string, got, want int) {
	t.Helper()
	if got != want {
		t.Fatalf("%s: %d, not %d", name, got, want)
	}
}

// The chapter's example.

func TestExample(t *testing.T) {
	g := graph.New()
	is(t, "With(0, 3)", g.With(0, 3), 1)
	is(t, "With(0, 3) again", g.With(0, 3), 1)
	is(t, "Without(1, 3)", g.Without(1, 3), 0)
	is(t, "Len", g.Len(), 2)
}

// P10.1: New

func TestNewHasTheEmptySetAlone(t *testing.T) {
	g := graph.New()
	is(t, "Len", g.Len(), 1)
	if s, ok := g.Sig(0); s != 0 || !ok {
		t.Error("Sig of 0:", s, ok)
	}
	if s, ok := g.Sig(1); s != 0 || ok {
		t.Error("Sig of 1:", s, ok)
	}
	if n, ok := g.Find(0); n != 0 || !ok {
		t.Error("Find of the empty set:", n, ok)
	}
	if l := g.Sigs(0, 0); !slices.Equal(l, []int{0}) {
		t.Error("Sigs:", l)
	}
	is(t, "Node of the empty set", g.Node(0), 0)
	is(t, "Len", g.Len(), 1)
	made(t).whole()
}

func TestGraphsStandApart(t *testing.T) {
	a, b := made(t), made(t)
	is(t, "With of the first", a.with(0, 3), 1)
	is(t, "With of the second", b.with(0, 5), 1)
	is(t, "With of the second", b.with(0, 3), 2)
	is(t, "With of the first", a.with(0, 5), 2)
	is(t, "Node of the second", b.node(7), 3)
	a.whole()
	b.whole()
	made(t).whole()
}

// P10.1: Node

func TestNodeOfTheEmptySet(t *testing.T) {
	p := made(t)
	for range 3 {
		is(t, "Node of the empty set", p.node(0), 0)
	}
	p.node(9)
	p.node(1 << 63)
	is(t, "Node of the empty set", p.node(0), 0)
	is(t, "Len", p.g.Len(), 3)
	p.whole()
}

func TestNodeOfSetsThatThereAreNotAndOfThoseThatThereAre(t *testing.T) {
	l := []uint64{1, 1 << 63, all, 2, 1<<63 | 1, all - 1, all >> 1, 1 << 32, 1 << 31, 3}
	p := made(t)
	for i, s := range l {
		is(t, "Len", p.g.Len(), i+1)
		is(t, fmt.Sprintf("Node(%#x)", s), p.node(s), i+1)
		is(t, fmt.Sprintf("Node(%#x) again", s), p.node(s), i+1)
		is(t, "Len", p.g.Len(), i+2)
	}
	p.whole()
	for i, s := range slices.Backward(l) {
		is(t, fmt.Sprintf("Node(%#x) behind all", s), p.node(s), i+1)
	}
	is(t, "Len", p.g.Len(), 11)
	p.whole()
}

func TestNodeOfComponentZeroAloneOfTheLastAloneAndOfAll(t *testing.T) {
	for _, s := range []uint64{1, 1 << 63, all} {
		p := made(t)
		is(t, fmt.Sprintf("Node(%#x)", s), p.node(s), 1)
		if got, ok := p.g.Sig(1); got != s || !ok {
			t.Errorf("Sig = %#x, %v; not %#x", got, ok, s)
		}
		p.whole()
	}
}

func TestNodeOfEachComponentAloneAndOfAllOthers(t *testing.T) {
	p := made(t)
	for c := range 64 {
		is(t, fmt.Sprintf("Node of %d alone", c), p.node(1<<c), 2*c+1)
		is(t, fmt.Sprintf("Node of all but %d", c), p.node(^uint64(1<<c)), 2*c+2)
	}
	is(t, "Node of all", p.node(all), 129)
	p.whole()
	for c := range 64 {
		is(t, fmt.Sprintf("With(0, %d)", c), p.with(0, c), 2*c+1)
		is(t, fmt.Sprintf("Without(129, %d)", c), p.without(129, c), 2*c+2)
	}
	is(t, "Len", p.g.Len(), 130)
	p.whole()
}

func TestNodeLeadsByWayOfNoOtherSet(t *testing.T) {
	p := made(t)
	is(t, "Node of three components", p.node(7), 1)
	is(t, "Node of all", p.node(all), 2)
	for _, s := range []uint64{1, 2, 4, 3, 5, 6, all >> 1} {
		p.find(s) // none of these came
	}
	is(t, "Len", p.g.Len(), 3)
}

// P10.1: Find

func TestFindOfWhatThereIsAndOfWhatThereIsNot(t *testing.T) {
	p := made(t, 5, 1<<63, all, 1)
	for i, s := range []uint64{0, 5, 1 << 63, all, 1} {
		if n, ok := p.g.Find(s); n != i || !ok {
			t.Errorf("Find(%#x) = %d, %v; not %d", s, n, ok, i)
		}
	}
	for _, s := range []uint64{4, 2, 3, 7, 1 << 62, 1<<63 | 1, all - 1, all >> 1, 1 << 32} {
		if n, ok := p.g.Find(s); n != 0 || ok {
			t.Errorf("Find(%#x) = %d, %v", s, n, ok)
		}
	}
	p.whole()
}

func TestFindMakesNoNode(t *testing.T) {
	p := made(t)
	for range 3 {
		for _, s := range sigs() {
			p.find(s)
		}
		is(t, "Len", p.g.Len(), 1)
	}
	for i, s := range sigs()[1:] {
		p.find(s)
		is(t, fmt.Sprintf("Node(%#x)", s), p.node(s), i+1)
		p.find(s)
	}
	p.whole()
}

func TestFindOfWhatWithAndWithoutMade(t *testing.T) {
	p := made(t, 7)
	p.find(15)
	is(t, "With(1, 3)", p.with(1, 3), 2)
	p.find(15)
	p.find(5)
	is(t, "Without(1, 1)", p.without(1, 1), 3)
	p.find(5)
	is(t, "Node", p.node(15), 2)
	is(t, "Node", p.node(5), 3)
	p.whole()
}

// P10.1: Sig

func TestSigOfEachPlace(t *testing.T) {
	p := made(t)
	for i, s := range append(sigs()[1:], 1<<40, 1<<41) {
		for _, n := range notThere(i + 1) {
			if got, ok := p.g.Sig(n); got != 0 || ok {
				t.Fatalf("%d nodes: Sig(%d) = %#x, %v", i+1, n, got, ok)
			}
		}
		p.node(s)
		if got, ok := p.g.Sig(i + 1); got != s || !ok {
			t.Fatalf("Sig(%d) = %#x, %v; not %#x", i+1, got, ok, s)
		}
		if got, ok := p.g.Sig(0); got != 0 || !ok {
			t.Fatalf("Sig(0) = %#x, %v", got, ok)
		}
	}
	p.whole()
}

// P10.2: With and Without

func TestWithOfWhatTheSetHasNotMakesOneMore(t *testing.T) {
	for _, s := range sigs() {
		for c := range 64 {
			if setOf(s)[c] {
				continue
			}
			p := made(t, s)
			n, last := p.node(s), p.g.Len()
			is(t, fmt.Sprintf("With of %#x and %d", s, c), p.with(n, c), last)
			if got, ok := p.g.Sig(last); got != s+1<<c || !ok {
				t.Fatalf("%#x with %d is %#x, %v", s, c, got, ok)
			}
			p.kept()
		}
	}
}

func TestWithoutOfWhatTheSetHasMakesOneMore(t *testing.T) {
	for _, s := range sigs() {
		for c := range 64 {
			if !setOf(s)[c] || s == 1<<c {
				continue
			}
			p := made(t, s)
			is(t, fmt.Sprintf("Without of %#x and %d", s, c), p.without(1, c), 2)
			if got, ok := p.g.Sig(2); got != s-1<<c || !ok {
				t.Fatalf("%#x without %d is %#x, %v", s, c, got, ok)
			}
			p.kept()
		}
	}
}

func TestWithoutTheOnlyComponentLeadsToNodeZero(t *testing.T) {
	for c := range 64 {
		p := made(t, 12, 1<<c)
		n, many := p.node(1<<c), p.g.Len()
		is(t, fmt.Sprintf("Without of %d alone", c), p.without(n, c), 0)
		is(t, "Len", p.g.Len(), many)
	}
}

func TestWhatLeadsToTheNodeItself(t *testing.T) {
	p := made(t, sigs()...)
	many := p.g.Len()
	for range 2 {
		for _, s := range sigs() {
			n := p.node(s)
			for c, has := range setOf(s) {
				if has {
					is(t, fmt.Sprintf("With of %#x, which has %d", s, c), p.with(n, c), n)
				} else {
					is(t, fmt.Sprintf("Without of %#x, which has not %d", s, c), p.without(n, c), n)
				}
			}
		}
	}
	is(t, "Len", p.g.Len(), many)
	p.whole()
}

func TestWhatLeadsToANodeThatThereIsAlready(t *testing.T) {
	p := made(t, 6, 2, 4, 7, 1<<63|6)
	for range 2 {
		for _, s := range []struct {
			name      string
			got, want int
		}{
			{"Without(1, 2)", p.without(1, 2), 2},
			{"Without(1, 1)", p.without(1, 1), 3},
			{"With(1, 0)", p.with(1, 0), 4},
			{"With(1, 63)", p.with(1, 63), 5},
			{"With(2, 2)", p.with(2, 2), 1},
			{"With(3, 1)", p.with(3, 1), 1},
			{"Without(4, 0)", p.without(4, 0), 1},
			{"Without(5, 63)", p.without(5, 63), 1},
			{"Without(2, 1)", p.without(2, 1), 0},
			{"Without(3, 2)", p.without(3, 2), 0},
			{"With(0, 1)", p.with(0, 1), 2},
			{"With(0, 2)", p.with(0, 2), 3},
		} {
			is(t, s.name, s.got, s.want)
		}
		is(t, "Len", p.g.Len(), 6)
	}
	p.whole()
}

func TestComponentsThatMayNotBeLeadToTheNodeItself(t *testing.T) {
	for _, s := range sigs() {
		p := made(t, 12, s, 1<<50)
		n, many := p.node(s), p.g.Len()
		for range 2 {
			for _, c := range wrong {
				is(t, fmt.Sprintf("With of %#x and %d", s, c), p.with(n, c), n)
				is(t, fmt.Sprintf("Without of %#x and %d", s, c), p.without(n, c), n)
				is(t, fmt.Sprintf("With of %#x and %d again", s, c), p.with(n, c), n)
			}
		}
		is(t, "Len", p.g.Len(), many)
		for c := range 64 {
			p.with(n, c)
			p.without(n, c)
		}
		p.kept()
	}
}

func TestNodesThatThereAreNotLeadNowhere(t *testing.T) {
	for _, l := range [][]uint64{nil, {1}, {1, 1 << 63}, {5, all, 2, 3}} {
		p := made(t, l...)
		many := p.g.Len()
		for _, n := range notThere(many) {
			for _, c := range append([]int{0, 1, 31, 32, 62, 63}, wrong...) {
				is(t, fmt.Sprintf("With(%d, %d)", n, c), p.with(n, c), -1)
				is(t, fmt.Sprintf("Without(%d, %d)", n, c), p.without(n, c), -1)
			}
		}
		is(t, "Len", p.g.Len(), many)
		p.whole()
	}
}

func TestANodeLeadsSomewhereAsSoonAsItCame(t *testing.T) {
	p := made(t)
	for n := range 20 {
		for _, c := range comps() {
			is(t, fmt.Sprintf("With(%d, %d)", n+1, c), p.with(n+1, c), -1)
			is(t, fmt.Sprintf("Without(%d, %d)", n+1, c), p.without(n+1, c), -1)
		}
		is(t, "With of the last node", p.with(n, n+3), n+1)
		is(t, "Without of the last node", p.without(n+1, n+3), n)
	}
	p.whole()
}

func TestTheFirstAndTheLastComponent(t *testing.T) {
	p := made(t)
	is(t, "With(0, 0)", p.with(0, 0), 1)
	is(t, "With(0, 63)", p.with(0, 63), 2)
	is(t, "With(1, 63)", p.with(1, 63), 3)
	is(t, "With(2, 0)", p.with(2, 0), 3)
	is(t, "Without(3, 0)", p.without(3, 0), 2)
	is(t, "Without(3, 63)", p.without(3, 63), 1)
	is(t, "Without(1, 0)", p.without(1, 0), 0)
	is(t, "Without(2, 63)", p.without(2, 63), 0)
	for n, want := range []uint64{0, 1, 1 << 63, 1<<63 | 1} {
		if got, ok := p.g.Sig(n); got != want || !ok {
			t.Errorf("Sig(%d) = %#x, %v; not %#x", n, got, ok, want)
		}
	}
	is(t, "Len", p.g.Len(), 4)
}

func TestTheSameAgainBehindOtherNodesToo(t *testing.T) {
	p := made(t, 6)
	for round := range 4 {
		is(t, "With(1, 0)", p.with(1, 0), 2)
		is(t, "With(1, 0) again", p.with(1, 0), 2)
		is(t, "Without(1, 2)", p.without(1, 2), 3)
		is(t, "Without(1, 2) again", p.without(1, 2), 3)
		is(t, "Without(1, 0)", p.without(1, 0), 1)
		is(t, "With(1, 2)", p.with(1, 2), 1)
		is(t, "Len", p.g.Len(), 4+round*100)
		for i := range 100 {
			p.node(1<<40 | uint64(round*100+i)<<8)
		}
	}
	p.whole()
}

func TestWithoutUndoesWithAndWithUndoesWithout(t *testing.T) {
	for _, s := range sigs() {
		for c, has := range setOf(s) {
			p := made(t, 12, s)
			n := p.node(s)
			for range 2 {
				if has {
					m := p.without(n, c)
					is(t, fmt.Sprintf("%#x without and with %d", s, c), p.with(m, c), n)
					is(t, fmt.Sprintf("%#x without %d, and without", s, c), p.without(m, c), m)
				} else {
					m := p.with(n, c)
					is(t, fmt.Sprintf("%#x with and without %d", s, c), p.without(m, c), n)
					is(t, fmt.Sprintf("%#x with %d, and with", s, c), p.with(m, c), m)
				}
			}
			p.kept()
		}
	}
}

func TestOneNodeWithAndWithoutTheSameComponent(t *testing.T) {
	for order := range 32 { // all rows of five calls
		for _, s := range []uint64{0, 1, 6, 1 << 63, all, all - 1} {
			for _, c := range []int{0, 1, 2, 31, 63, -1, 64} {
				p := made(t, s)
				n := p.node(s)
				for i := range 5 {
					if order>>i%2 == 1 {
						p.with(n, c)
					} else {
						p.without(n, c)
					}
				}
				p.kept()
			}
		}
	}
	p := made(t, 6)
	for range 3 {
		is(t, "Without(1, 3)", p.without(1, 3), 1)
		is(t, "With(1, 3)", p.with(1, 3), 2)
		is(t, "With(1, 2)", p.with(1, 2), 1)
		is(t, "Without(1, 2)", p.without(1, 2), 3)
	}
	is(t, "Len", p.g.Len(), 4)
}

func TestTwoNodesThatLeadToOne(t *testing.T) {
	p := made(t, 2, 16)
	is(t, "With(1, 4)", p.with(1, 4), 3)
	is(t, "With(2, 1)", p.with(2, 1), 3)
	is(t, "Without(3, 4)", p.without(3, 4), 1)
	is(t, "Without(3, 1)", p.without(3, 1), 2)
	is(t, "Len", p.g.Len(), 4)
	q := made(t, 3, 5)
	is(t, "Without(1, 1)", q.without(1, 1), 3)
	is(t, "Without(2, 2)", q.without(2, 2), 3)
	is(t, "With(3, 1)", q.with(3, 1), 1)
	is(t, "With(3, 2)", q.with(3, 2), 2)
	is(t, "Len", q.g.Len(), 4)
	r := made(t, 1, 3)
	is(t, "one by With", r.with(0, 1), 3)
	is(t, "the same by Without", r.without(2, 0), 3)
	is(t, "Len", r.g.Len(), 4)
	for _, x := range []*pair{p, q, r} {
		x.whole()
	}
}

func TestHowNodesCamePlaysNoPart(t *testing.T) {
	l := []uint64{1, 3, 2, 6, 7, 5, 4}
	walked := made(t)
	n := 0
	for _, c := range []int{0, 1, 0, 2, 0, 1, 0} { // each step gives the next one of l
		if m := walked.with(n, c); m != n {
			n = m
		} else {
			n = walked.without(n, c)
		}
	}
	named := made(t, l...)
	found := made(t)
	for _, s := range l {
		found.find(s)
		found.node(s)
		found.with(found.node(s), 0)
	}
	for _, p := range []*pair{walked, named} {
		is(t, "Len", p.g.Len(), 8)
		for n := range 8 {
			want, _ := named.g.Sig(n)
			if got, ok := p.g.Sig(n); got != want || !ok {
				t.Errorf("Sig(%d) = %#x, %v; not %#x", n, got, ok, want)
			}
			for c := range 4 {
				p.with(n, c)
				p.without(n, c)
			}
		}
		p.whole()
	}
	found.whole()
}

// P10.2: Sigs

func TestSigsOfNothingAreAllNodes(t *testing.T) {
	p := made(t)
	var want []int
	for i, s := range sigs()[1:] {
		want = append(want, i)
		if got := p.g.Sigs(0, 0); !slices.Equal(got, want) {
			t.Fatalf("Sigs(0, 0) = %v, not %v", got, want)
		}
		p.node(s)
	}
}

func TestSigsOfSomeNodes(t *testing.T) {
	p := made(t, 2, 18, 16, 1<<63|2, 3, all)
	for _, s := range []struct {
		with, without uint64
		want          []int
	}{
		{0, 0, []int{0, 1, 2, 3, 4, 5, 6}},
		{2, 0, []int{1, 2, 4, 5, 6}},
		{16, 0, []int{2, 3, 6}},
		{18, 0, []int{2, 6}},
		{1, 0, []int{5, 6}},
		{1 << 63, 0, []int{4, 6}},
		{all, 0, []int{6}},
		{1 << 40, 0, []int{6}},
		{0, 1 << 40, []int{0, 1, 2, 3, 4, 5}},
		{0, 2, []int{0, 3}},
		{0, 16, []int{0, 1, 4, 5}},
		{0, 18, []int{0}},
		{0, all, []int{0}},
		{0, 1 << 63, []int{0, 1, 2, 3, 5}},
		{2, 16, []int{1, 4, 5}},
		{2, 1<<63 | 16, []int{1, 5}},
		{2, 1<<63 | 17, []int{1}},
		{16, 2, []int{3}},
		{3, all - 3, []int{5}},
		{1 << 63, 1, []int{4}},
		{1 << 40, 1, nil},
		{2, 2, nil}, // in both
		{all, all, nil},
		{2, all, nil},
		{18, 16, nil},
		{all, 1 << 63, nil},
	} {
		if got := p.g.Sigs(s.with, s.without); !slices.Equal(got, s.want) {
			t.Errorf("Sigs(%#x, %#x) = %v, not %v", s.with, s.without, got, s.want)
		}
		p.sigs(s.with, s.without)
	}
}

func TestSigsOfComponentsThatNoNodeHasAndThatAllHave(t *testing.T) {
	p := made(t, 12, 4, 1<<63|4, 6) // all but node 0 have component 2
	for c := range 64 {
		want := p.w.sigs(setOf(1<<c), set{})
		p.sigs(1<<c, 0)
		p.sigs(0, 1<<c)
		if c != 1 && c != 2 && c != 3 && c != 63 {
			is(t, "nodes with what none has", len(want), 0)
			is(t, "nodes without what none has", len(p.g.Sigs(0, 1<<c)), 5)
			is(t, "nodes with it and what some have", len(p.g.Sigs(4|1<<c, 0)), 0)
		}
	}
	if got := p.g.Sigs(4, 0); !slices.Equal(got, []int{1, 2, 3, 4}) {
		t.Error("with what all have:", got)
	}
	if got := p.g.Sigs(0, 4); !slices.Equal(got, []int{0}) {
		t.Error("without what all have:", got)
	}
	if got := p.g.Sigs(4, 8); !slices.Equal(got, []int{2, 3, 4}) {
		t.Error("with what all have, without what some have:", got)
	}
}

func TestSigsOfAComponentInBoth(t *testing.T) {
	p := made(t, sigs()...)
	for c := range 64 {
		for _, s := range sigs() {
			if got := p.g.Sigs(s|1<<c, 1<<c); len(got) != 0 {
				t.Fatalf("Sigs(%#x, %#x) = %v", s|1<<c, uint64(1<<c), got)
			}
			if got := p.g.Sigs(1<<c, s|1<<c); len(got) != 0 {
				t.Fatalf("Sigs(%#x, %#x) = %v", uint64(1<<c), s|1<<c, got)
			}
		}
	}
}

func TestSigsOfAllSetsOfFiveComponents(t *testing.T) {
	for _, at := range []int{0, 30, 59} { // where the five stand
		g := chance(at)
		p := made(t)
		for p.g.Len() < 28 { // not all 32 of them, and in no order
			p.node(uint64(g.below(32)) << at)
		}
		for with := range uint64(32) {
			for without := range uint64(32) {
				p.sigs(with<<at, without<<at)
				if l := p.g.Sigs(with<<at, without<<at); !slices.IsSorted(l) {
					t.Fatalf("Sigs(%#x, %#x) = %v", with<<at, without<<at, l)
				}
			}
		}
	}
}

func TestSigsOfWhatWithAndWithoutMade(t *testing.T) {
	p := made(t)
	n := 0
	for c := range 10 {
		n = p.with(n, c)
		p.sigs(1<<c, 0)
		p.sigs(1, 1<<c)
	}
	for c := range 9 {
		n = p.without(n, c)
		p.sigs(1<<9, 0)
		p.sigs(1<<9, 1<<c)
	}
	if got := p.g.Sigs(1<<9, 1); !slices.Equal(got, []int{11, 12, 13, 14, 15, 16, 17, 18, 19}) {
		t.Error(got)
	}
	p.whole()
}

func TestSigsAreNewMemory(t *testing.T) {
	for _, many := range []int{0, 1, 2, 3, 7, 8, 63, 64, 300} {
		p := made(t)
		for i := range many {
			p.node(uint64(i) * 3)
		}
		a, b := p.g.Sigs(0, 0), p.g.Sigs(0, 0)
		was := slices.Clone(b)
		for _, l := range [][]int{a, p.g.Sigs(3, 0), p.g.Sigs(0, 6)} {
			l = l[:cap(l)]
			for i := range l {
				l[i] = -7
			}
			_ = append(l[:len(l)/2], -8, -9)
		}
		if !slices.Equal(b, was) {
			t.Fatalf("another answer is %v now, not %v", b, was)
		}
		p.whole()
		p.node(1 << 40)
		p.with(0, 41)
		if !slices.Equal(b, was) {
			t.Fatalf("an answer is %v behind more nodes, not %v", b, was)
		}
		p.whole()
	}
}

// P10.3

func TestAskingMakesNoNodeAndChangesNone(t *testing.T) {
	p := made(t, 6, 7, 1<<63)
	for range 3 {
		for _, n := range append(notThere(4), 0, 1, 2, 3) {
			p.sig(n)
		}
		for _, s := range sigs() {
			p.find(s)
			p.sigs(s, 0)
			p.sigs(0, s)
		}
		is(t, "Len", p.g.Len(), 4)
	}
	is(t, "the next node", p.node(8), 4)
	p.whole()
}

func TestAllSetsOfElevenComponentsHaveOneNodeEach(t *testing.T) {
	p := made(t)
	for n := 0; n < p.g.Len(); n++ { // there are more and more of them
		for c := range 11 {
			p.with(n, c*6)
		}
	}
	is(t, "Len", p.g.Len(), 2048)
	p.kept()
	for n := range 2048 {
		for c := range 11 {
			p.g.Without(n, c*6)
			p.g.With(n, c*6)
		}
	}
	is(t, "Len", p.g.Len(), 2048)
	p.whole()
}

// run: so many mixed steps over these components and sets; each node is held against its twin behind every step.
func run(t *testing.T, seed chance, steps int, comps []int, sets func(*chance) uint64) {
	t.Helper()
	p := made(t)
	for range steps {
		many := p.g.Len()
		n := seed.below(many)
		switch seed.below(16) {
		case 0:
			p.node(sets(&seed))
		case 1:
			p.find(sets(&seed))
		case 2:
			p.sigs(sets(&seed), 0)
		case 3:
			p.sigs(0, sets(&seed))
		case 4:
			p.sigs(sets(&seed), sets(&seed))
		case 5:
			p.sig(n)
			p.sig(one(&seed, notThere(many)))
		case 6:
			p.with(one(&seed, notThere(many)), one(&seed, comps))
			p.without(one(&seed, notThere(many)), one(&seed, comps))
		case 7:
			c := one(&seed, comps)
			p.without(p.with(n, c), c)
		case 8:
			c := one(&seed, comps)
			p.with(p.without(n, c), c)
		case 9:
			p.with(many-1, one(&seed, comps))
		case 10:
			p.without(many-1, one(&seed, comps))
		case 11, 12, 13:
			p.with(n, one(&seed, comps))
		default:
			p.without(n, one(&seed, comps))
		}
		p.kept()
	}
	p.whole()
}

func TestLongRunsOverFewComponents(t *testing.T) {
	for seed := range chance(20) {
		few := []int{0, 1, 2, 5, 62, 63, -1, 64, 1 << 32}
		run(t, seed, 1500, few, func(c *chance) uint64 {
			var s uint64
			for _, k := range few[:6] {
				s |= uint64(c.below(2)) << k
			}
			return s
		})
	}
}

func TestLongRunsOverAllComponents(t *testing.T) {
	for seed := range chance(4) {
		run(t, seed, 1500, comps(), (*chance).next)
	}
}

func TestLongRunsOverFewSets(t *testing.T) {
	for seed := range chance(10) {
		run(t, seed, 400, comps(), func(c *chance) uint64 { return one(c, sigs()) })
	}
}

// Nil, and the zero value.

func TestNil(t *testing.T) {
	var g *graph.Graph
	for range 2 {
		for _, s := range sigs() {
			is(t, "Node", g.Node(s), -1)
			if n, ok := g.Find(s); n != 0 || ok {
				t.Errorf("Find(%#x) = %d, %v", s, n, ok)
			}
			for _, x := range []uint64{0, s, ^s, all} {
				if l := g.Sigs(s, x); len(l) != 0 {
					t.Errorf("Sigs(%#x, %#x) = %v", s, x, l)
				}
			}
		}
		for _, n := range append(notThere(1), 0) {
			if s, ok := g.Sig(n); s != 0 || ok {
				t.Errorf("Sig(%d) = %#x, %v", n, s, ok)
			}
			for _, c := range comps() {
				is(t, fmt.Sprintf("With(%d, %d)", n, c), g.With(n, c), -1)
				is(t, fmt.Sprintf("Without(%d, %d)", n, c), g.Without(n, c), -1)
			}
		}
		is(t, "Len", g.Len(), 0)
	}
}

// What the zero value tells is open, but nothing panics.
func TestTheZeroValueEnds(t *testing.T) {
	for _, first := range []func(*graph.Graph){
		func(g *graph.Graph) { g.Node(0) },
		func(g *graph.Graph) { g.Node(5) },
		func(g *graph.Graph) { g.With(0, 3) },
		func(g *graph.Graph) { g.Without(0, 3) },
		func(g *graph.Graph) { g.Find(0) },
		func(g *graph.Graph) { g.Sig(0) },
		func(g *graph.Graph) { g.Sigs(0, 0) },
		func(g *graph.Graph) { g.Len() },
	} {
		g := &graph.Graph{}
		first(g)
		for _, c := range comps() {
			for n := -1; n < 3; n++ {
				g.With(n, c)
				g.Without(n, c)
				g.Sig(n)
			}
			g.Node(uint64(c))
			g.Find(uint64(c))
			g.Sigs(uint64(c), 1)
		}
		g.Len()
	}
}
