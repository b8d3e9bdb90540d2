package ids_test

import (
	"fmt"
	"math"
	"slices"
	"testing"

	"vivarium/api"
	"vivarium/ids"
)

// chance: numbers that look mixed, the same ones for the same seed.
type chance uint64

// below: the next number from 0 on, below n.
func (c *chance) below(n int) int {
	*c = *c*6364136223846793005 + 1442695040888963407
	return int(uint64(*c)>>33) % n
}

// one: the next one of l.
func one[T any](c *chance, l []T) T {
	return l[c.below(len(l))]
}

// id: that index and generation.
func id(index, gen int) api.ID {
	return api.ID{Index: index, Gen: gen}
}

// twin: names by the document's words, with nothing kept but what Gens and Free are to tell.
type twin struct {
	entities, gens int
	g, free        []int
}

// newTwin: of numbers that may be.
func newTwin(entities, gens int) *twin {
	return &twin{entities: entities, gens: gens}
}

func (w *twin) lives(index int) bool {
	return index >= 0 && index < len(w.g) && w.g[index] < w.gens && !slices.Contains(w.free, index)
}

func (w *twin) alive(name api.ID) bool {
	return w.lives(name.Index) && w.g[name.Index] == name.Gen
}

func (w *twin) at(index int) (api.ID, bool) {
	if w.lives(index) {
		return id(index, w.g[index]), true
	}
	return api.ID{}, false
}

func (w *twin) count() int {
	n := 0
	for i := range w.g {
		if w.lives(i) {
			n++
		}
	}
	return n
}

func (w *twin) take() (api.ID, api.Errno) {
	if n := len(w.free); n > 0 {
		i := w.free[n-1]
		w.free = slices.Clone(w.free[:n-1])
		return id(i, w.g[i]), api.OK
	}
	if len(w.g) < w.entities {
		w.g = append(w.g, 0)
		return id(len(w.g)-1, 0), api.OK
	}
	return api.ID{}, api.ErrFull
}

func (w *twin) give(name api.ID) api.Errno {
	if !w.alive(name) {
		return api.ErrStale
	}
	w.g[name.Index]++
	if w.g[name.Index] < w.gens {
		w.free = append(w.free, name.Index)
	}
	return api.OK
}

// asked: indexes to ask for, where so many may be.
func asked(entities int) []int {
	out := []int{math.MinInt, math.MinInt + 1, -1 << 32, -1025, -2, -1, entities, entities + 1, 1023, 1024, 1025, 1 << 32, 1<<32 + 1, math.MaxInt - 1, math.MaxInt}
	for i := range min(entities, 1024) {
		out = append(out, i)
	}
	return out
}

// alike: does x tell what its twin tells, of each index, and of generations before and behind the one that it has?
func (w *twin) alike(t *testing.T, x *ids.Ids, name string) {
	t.Helper()
	if !slices.Equal(x.Gens(), w.g) || !slices.Equal(x.Free(), w.free) || x.Count() != w.count() {
		t.Fatalf("%s: Gens %v, Free %v, Count %d; not %v, %v, %d", name, x.Gens(), x.Free(), x.Count(), w.g, w.free, w.count())
	}
	for _, i := range asked(w.entities) {
		got, ok := x.At(i)
		want, is := w.at(i)
		if got != want || ok != is {
			t.Fatalf("%s: At(%d) = %v, %v; not %v, %v", name, i, got, ok, want, is)
		}
		now := 0
		if i >= 0 && i < len(w.g) {
			now = w.g[i]
		}
		for _, gen := range []int{math.MinInt, -1, 0, now - 1, now, now + 1, w.gens - 1, w.gens, w.gens + 1, now + 1<<32, math.MaxInt} {
			if got, want := x.Alive(id(i, gen)), w.alive(id(i, gen)); got != want {
				t.Fatalf("%s: Alive(%d/%d) = %v, not %v", name, i, gen, got, want)
			}
		}
	}
}

// told: all that can be told of x.
func told(x *ids.Ids) string {
	var names []string
	for i := range 1024 {
		if name, ok := x.At(i); ok {
			names = append(names, fmt.Sprint(name, x.Alive(name)))
		}
	}
	return fmt.Sprint(x.Gens(), x.Free(), x.Count(), names)
}

// takes: Take tells this ID.
func takes(t *testing.T, x *ids.Ids, want api.ID) {
	t.Helper()
	if got, e := x.Take(); got != want || e != api.OK {
		t.Fatalf("Take: %v, error %d; not %v", got, int(e), want)
	}
}

// full: Take tells that there is none, and changes nothing.
func full(t *testing.T, x *ids.Ids) {
	t.Helper()
	was := told(x)
	for range 3 {
		if got, e := x.Take(); got != (api.ID{}) || e != api.ErrFull {
			t.Fatalf("Take of none that is left: %v, error %d", got, int(e))
		}
	}
	if told(x) != was {
		t.Fatalf("Take of none that is left: %s, not %s", told(x), was)
	}
}

// gives: Give of that ID is done.
func gives(t *testing.T, x *ids.Ids, name api.ID) {
	t.Helper()
	if e := x.Give(name); e != api.OK {
		t.Fatalf("Give(%v): error %d", name, int(e))
	}
}

// stale: Give of that ID tells ErrStale, and changes nothing.
func stale(t *testing.T, x *ids.Ids, name api.ID) {
	t.Helper()
	was := told(x)
	if e := x.Give(name); e != api.ErrStale {
		t.Fatalf("Give(%v): error %d", name, int(e))
	}
	if told(x) != was {
		t.Fatalf("Give(%v): %s, not %s", name, told(x), was)
	}
}

// has: x has these Gens and this Free.
func has(t *testing.T, x *ids.Ids, gens, free []int) {
	t.Helper()
	if !slices.Equal(x.Gens(), gens) || !slices.Equal(x.Free(), free) {
		t.Fatalf("Gens %v, Free %v; not %v, %v", x.Gens(), x.Free(), gens, free)
	}
}

// load: these may be.
func load(t *testing.T, entities, gens int, g, free []int) *ids.Ids {
	t.Helper()
	x, e := ids.Load(entities, gens, g, free)
	if x == nil || e != api.OK {
		t.Fatalf("Load(%d, %d, %v, %v): error %d", entities, gens, g, free, int(e))
	}
	return x
}

// none: these may not be.
func none(t *testing.T, entities, gens int, g, free []int) {
	t.Helper()
	if x, e := ids.Load(entities, gens, g, free); x != nil || e != api.ErrForm {
		t.Errorf("Load(%d, %d, %v, %v): error %d, nothing %v", entities, gens, g, free, int(e), x == nil)
	}
}

// spare: these numbers, with spare room behind them that has 7s.
func spare(l ...int) []int {
	room := append(slices.Clone(l), slices.Repeat([]int{7}, 8)...)
	return room[:len(l)]
}

// untouched: has l, made by spare, still these numbers, and its spare room, too?
func untouched(l []int, want ...int) bool {
	room := l[:cap(l)]
	return slices.Equal(l, want) && slices.Equal(room[len(l):len(l)+8], slices.Repeat([]int{7}, 8))
}

// overwrite: all of l, its spare room too, are n from now on.
func overwrite(l []int, n int) {
	l = l[:cap(l)]
	for i := range l {
		l[i] = n
	}
}

// manyEntities: how many are asked for, and how many there are.
var manyEntities = []struct{ n, want int }{
	{math.MinInt, 1}, {-1024, 1}, {-2, 1}, {-1, 1}, {0, 1}, {1, 1}, {2, 2}, {3, 3}, {31, 31}, {1023, 1023}, {1024, 1024}, {1025, 1024}, {2048, 1024}, {1 << 30, 1024}, {1 << 32, 1024}, {math.MaxInt, 1024},
}

// manyGens: how many are asked for, and how many there are.
var manyGens = []struct{ n, want int }{
	{math.MinInt, 1}, {-1 << 30, 1}, {-2, 1}, {-1, 1}, {0, 1}, {1, 1}, {2, 2}, {3, 3}, {1024, 1024}, {1025, 1025}, {1<<30 - 1, 1<<30 - 1}, {1 << 30, 1 << 30}, {1<<30 + 1, 1 << 30}, {1 << 31, 1 << 30}, {1 << 32, 1 << 30}, {math.MaxInt, 1 << 30},
}

// P6.1

func TestNewHasUsedNoIndex(t *testing.T) {
	for _, c := range manyEntities {
		for _, k := range manyGens {
			x := ids.New(c.n, k.n)
			newTwin(c.want, k.want).alike(t, x, fmt.Sprintf("New(%d, %d)", c.n, k.n))
		}
	}
}

func TestNewHasTheNearestNumberOfEntities(t *testing.T) {
	for _, c := range manyEntities {
		for _, gens := range []int{-1, 0, 1, 2, 1 << 30, math.MaxInt} {
			x := ids.New(c.n, gens)
			for i := range c.want {
				takes(t, x, id(i, 0))
			}
			full(t, x)
			if x.Count() != c.want || len(x.Gens()) != c.want || len(x.Free()) != 0 {
				t.Errorf("New(%d, %d): %d alive, %d used, %d free", c.n, gens, x.Count(), len(x.Gens()), len(x.Free()))
			}
		}
	}
}

func TestNewHasTheNearestNumberOfGens(t *testing.T) {
	for _, k := range manyGens {
		x := ids.New(1, k.n)
		for gen := range min(k.want, 3000) {
			takes(t, x, id(0, gen))
			gives(t, x, id(0, gen))
			has(t, x, []int{gen + 1}, []int{0}[:btoi(gen+1 < k.want)])
		}
		if k.want < 3000 {
			full(t, x)
		} else {
			takes(t, x, id(0, 3000))
		}
	}
}

// btoi: 1, if b.
func btoi(b bool) int {
	if b {
		return 1
	}
	return 0
}

func TestTheLastGenerationOfMany(t *testing.T) {
	for _, k := range manyGens {
		last := k.want - 1
		x := load(t, 2, k.n, []int{last}, nil)
		if !x.Alive(id(0, last)) || x.Count() != 1 {
			t.Errorf("%d generations: %d is not alive", k.n, last)
		}
		gives(t, x, id(0, last))
		has(t, x, []int{k.want}, nil)
		if _, ok := x.At(0); ok || x.Count() != 0 || x.Alive(id(0, last)) || x.Alive(id(0, k.want)) {
			t.Errorf("%d generations: alive behind the last one", k.n)
		}
		takes(t, x, id(1, 0))
		full(t, x)
	}
}

func TestGensAndFreeStepByStep(t *testing.T) {
	x := ids.New(4, 3)
	has(t, x, nil, nil)
	takes(t, x, id(0, 0))
	has(t, x, []int{0}, nil)
	takes(t, x, id(1, 0))
	takes(t, x, id(2, 0))
	has(t, x, []int{0, 0, 0}, nil)
	gives(t, x, id(1, 0))
	has(t, x, []int{0, 1, 0}, []int{1})
	gives(t, x, id(2, 0))
	has(t, x, []int{0, 1, 1}, []int{1, 2})
	gives(t, x, id(0, 0))
	has(t, x, []int{1, 1, 1}, []int{1, 2, 0})
	takes(t, x, id(0, 1))
	has(t, x, []int{1, 1, 1}, []int{1, 2})
	gives(t, x, id(0, 1))
	has(t, x, []int{2, 1, 1}, []int{1, 2, 0})
	takes(t, x, id(0, 2))
	takes(t, x, id(2, 1))
	has(t, x, []int{2, 1, 1}, []int{1})
	gives(t, x, id(0, 2))
	has(t, x, []int{3, 1, 1}, []int{1})
	takes(t, x, id(1, 1))
	has(t, x, []int{3, 1, 1}, nil)
	takes(t, x, id(3, 0))
	has(t, x, []int{3, 1, 1, 0}, nil)
	full(t, x)
	has(t, x, []int{3, 1, 1, 0}, nil)
}

func TestFreeHasTheLastOneLast(t *testing.T) {
	orders := [][]int{{0, 1, 2, 3, 4}, {4, 3, 2, 1, 0}, {2, 0, 4, 1, 3}, {3}, {1, 4}}
	for _, order := range orders {
		x, w := ids.New(5, 9), newTwin(5, 9)
		for range 5 {
			x.Take()
			w.take()
		}
		for n, i := range order {
			gives(t, x, id(i, 0))
			w.give(id(i, 0))
			if got := x.Free(); !slices.Equal(got, order[:n+1]) {
				t.Errorf("Free = %v, not %v", got, order[:n+1])
			}
			w.alike(t, x, fmt.Sprint("behind Give of ", order[:n+1]))
		}
		for n := len(order) - 1; n >= 0; n-- {
			takes(t, x, id(order[n], 1))
			w.take()
			if got := x.Free(); !slices.Equal(got, order[:n]) {
				t.Errorf("Free = %v, not %v", got, order[:n])
			}
			w.alike(t, x, fmt.Sprint("behind Take of ", order[n]))
		}
	}
}

// P6.2

func TestTheDocumentsExample(t *testing.T) {
	x := ids.New(10, 10)
	takes(t, x, id(0, 0))
	takes(t, x, id(1, 0))
	gives(t, x, id(0, 0))
	takes(t, x, id(0, 1))
}

func TestTakeIsAliveFromThenOn(t *testing.T) {
	x := ids.New(3, 2)
	for i := range 3 {
		if x.Alive(id(i, 0)) {
			t.Errorf("%d is alive ahead of its Take", i)
		}
		takes(t, x, id(i, 0))
		if !x.Alive(id(i, 0)) || x.Count() != i+1 {
			t.Errorf("%d is not alive behind its Take", i)
		}
	}
	gives(t, x, id(1, 0))
	if x.Alive(id(1, 1)) || x.Alive(id(1, 0)) || x.Count() != 2 {
		t.Error("1 is alive ahead of its second Take")
	}
	takes(t, x, id(1, 1))
	if !x.Alive(id(1, 1)) || x.Alive(id(1, 0)) || x.Count() != 3 {
		t.Error("1 is not alive behind its second Take")
	}
}

func TestTakeBehindGivesAsksFreeAheadOfTheNextIndex(t *testing.T) {
	x := ids.New(9, 9)
	for i := range 5 {
		takes(t, x, id(i, 0))
	}
	gives(t, x, id(2, 0))
	takes(t, x, id(2, 1))
	takes(t, x, id(5, 0))
	for _, name := range []api.ID{id(4, 0), id(0, 0), id(2, 1)} {
		gives(t, x, name)
	}
	takes(t, x, id(2, 2))
	takes(t, x, id(0, 1))
	gives(t, x, id(5, 0))
	takes(t, x, id(5, 1))
	takes(t, x, id(4, 1))
	takes(t, x, id(6, 0))
}

func TestTakeOfAllUsedBehindAGive(t *testing.T) {
	for _, entities := range []int{1, 2, 3, 1023, 1024} {
		x := ids.New(entities, 2)
		for i := range entities {
			takes(t, x, id(i, 0))
		}
		full(t, x)
		for _, i := range []int{entities - 1, 0, entities / 2} {
			name, ok := x.At(i)
			if !ok || name.Gen != 0 {
				continue
			}
			gives(t, x, name)
			takes(t, x, id(i, 1))
			full(t, x)
		}
	}
}

func TestAnIndexWithoutGenerationsLeftIsNotUsedAgain(t *testing.T) {
	x := ids.New(2, 1)
	takes(t, x, id(0, 0))
	gives(t, x, id(0, 0))
	has(t, x, []int{1}, nil)
	stale(t, x, id(0, 0))
	stale(t, x, id(0, 1))
	takes(t, x, id(1, 0))
	full(t, x)
	gives(t, x, id(1, 0))
	full(t, x)
	has(t, x, []int{1, 1}, nil)
	if x.Count() != 0 {
		t.Error("alive:", x.Count())
	}

	x = ids.New(3, 2)
	for i := range 3 {
		takes(t, x, id(i, 0))
	}
	for _, i := range []int{0, 1, 2} {
		gives(t, x, id(i, 0))
	}
	takes(t, x, id(2, 1))
	gives(t, x, id(2, 1))
	has(t, x, []int{1, 1, 2}, []int{0, 1})
	takes(t, x, id(1, 1))
	takes(t, x, id(0, 1))
	full(t, x)
	gives(t, x, id(0, 1))
	full(t, x)
	if x.Count() != 1 {
		t.Error("alive:", x.Count())
	}
}

func TestGiveOfOneThatIsNotAlive(t *testing.T) {
	x := ids.New(5, 4)
	for _, i := range asked(5) {
		stale(t, x, id(i, 0))
	}
	for i := range 3 {
		takes(t, x, id(i, 0))
	}
	for _, i := range []int{math.MinInt, -2, -1, 3, 4, 5, 6, 1023, 1024, 1 << 32, 1<<32 + 1, math.MaxInt} {
		for _, gen := range []int{math.MinInt, -1, 0, 1, 3, 4, 5, math.MaxInt} {
			stale(t, x, id(i, gen))
		}
	}
	gives(t, x, id(1, 0))
	for _, gen := range []int{math.MinInt, -1, 0, 1, 2, 3, 4, 5, math.MaxInt} {
		stale(t, x, id(1, gen))
	}
	takes(t, x, id(1, 1))
	gives(t, x, id(1, 1))
	takes(t, x, id(1, 2))
	for _, gen := range []int{math.MinInt, math.MinInt + 2, -2, -1, 0, 1, 3, 4, 5, 2 + 1<<32, 2 - 1<<32, math.MaxInt} {
		stale(t, x, id(1, gen))
	}
	gives(t, x, id(1, 2))
	takes(t, x, id(1, 3))
	gives(t, x, id(1, 3))
	for gen := -1; gen < 7; gen++ {
		stale(t, x, id(1, gen))
	}
	has(t, x, []int{0, 4, 0}, nil)
}

func TestGiveTwice(t *testing.T) {
	for gens := 1; gens < 5; gens++ {
		x := ids.New(2, gens)
		takes(t, x, id(0, 0))
		takes(t, x, id(1, 0))
		for gen := range gens {
			gives(t, x, id(0, gen))
			stale(t, x, id(0, gen))
			stale(t, x, id(0, gen+1))
			if gen+1 < gens {
				takes(t, x, id(0, gen+1))
				stale(t, x, id(0, gen))
			}
		}
		full(t, x)
	}
}

func TestGiveOfOneIndexLeavesTheOthers(t *testing.T) {
	x := ids.New(4, 5)
	for i := range 4 {
		takes(t, x, id(i, 0))
	}
	gives(t, x, id(2, 0))
	for _, i := range []int{0, 1, 3} {
		if name, ok := x.At(i); name != id(i, 0) || !ok || !x.Alive(name) {
			t.Errorf("At(%d) = %v, %v", i, name, ok)
		}
	}
	has(t, x, []int{0, 0, 1, 0}, []int{2})
}

// P6.3

func TestAliveAtAndCount(t *testing.T) {
	x, w := ids.New(5, 3), newTwin(5, 3)
	for _, s := range []struct {
		give bool
		name api.ID
	}{
		{false, id(0, 0)}, {true, id(0, 0)}, {false, id(0, 1)},
		{false, id(1, 0)}, {false, id(2, 0)}, {false, id(3, 0)},
		{true, id(1, 0)}, {false, id(1, 1)}, {true, id(1, 1)},
		{true, id(2, 0)}, {false, id(2, 1)}, {true, id(2, 1)}, {false, id(2, 2)}, {true, id(2, 2)},
		{true, id(3, 0)}, {false, id(3, 1)}, {true, id(3, 1)}, {false, id(3, 2)},
	} {
		if s.give {
			gives(t, x, s.name)
			w.give(s.name)
		} else {
			takes(t, x, s.name)
			w.take()
		}
		w.alike(t, x, fmt.Sprint("behind a step with ", s.name, ", Give ", s.give))
	}
	// 0 is alive, 1 is free, 2 is used up, 3 is alive of the last generation, 4 was never used.
	has(t, x, []int{1, 2, 3, 2}, []int{1})
	if x.Count() != 2 || !x.Alive(id(0, 1)) || !x.Alive(id(3, 2)) {
		t.Error("alive:", x.Count(), x.Alive(id(0, 1)), x.Alive(id(3, 2)))
	}
	for _, i := range []int{-1, 1, 2, 4, 5} {
		if name, ok := x.At(i); name != (api.ID{}) || ok {
			t.Errorf("At(%d) = %v, %v", i, name, ok)
		}
	}
}

func TestAFreeIndexIsNotAlive(t *testing.T) {
	x := load(t, 3, 5, []int{2, 3}, []int{1, 0})
	for i := -1; i < 4; i++ {
		if name, ok := x.At(i); name != (api.ID{}) || ok {
			t.Errorf("At(%d) = %v, %v", i, name, ok)
		}
		for gen := -1; gen < 7; gen++ {
			if x.Alive(id(i, gen)) {
				t.Errorf("%d/%d is alive", i, gen)
			}
		}
	}
	if x.Count() != 0 {
		t.Error("alive:", x.Count())
	}
}

func TestCountOfMany(t *testing.T) {
	x := ids.New(1024, 2)
	for i := range 1024 {
		takes(t, x, id(i, 0))
	}
	for i := range 1024 {
		if x.Count() != 1024-i {
			t.Fatalf("%d alive behind %d Gives", x.Count(), i)
		}
		gives(t, x, id(i*5%1024, 0))
	}
	for i := range 1024 {
		if x.Count() != i {
			t.Fatalf("%d alive behind %d Takes", x.Count(), i)
		}
		takes(t, x, id((1023-i)*5%1024, 1))
	}
}

func TestAskingChangesNothing(t *testing.T) {
	x := load(t, 6, 4, []int{0, 1, 4, 3}, []int{3, 1})
	was := told(x)
	for _, i := range asked(6) {
		x.At(i)
		x.Alive(id(i, 1))
		x.Count()
		x.Gens()
		x.Free()
	}
	if told(x) != was {
		t.Errorf("%s, not %s", told(x), was)
	}
	takes(t, x, id(1, 1))
}

func TestNil(t *testing.T) {
	var x *ids.Ids
	for range 2 {
		if name, e := x.Take(); name != (api.ID{}) || e != api.ErrNil {
			t.Errorf("Take: %v, error %d", name, int(e))
		}
		for _, i := range asked(3) {
			for _, gen := range []int{math.MinInt, -1, 0, 1, math.MaxInt} {
				if e := x.Give(id(i, gen)); e != api.ErrNil {
					t.Errorf("Give(%d/%d): error %d", i, gen, int(e))
				}
				if x.Alive(id(i, gen)) {
					t.Errorf("%d/%d is alive", i, gen)
				}
			}
			if name, ok := x.At(i); name != (api.ID{}) || ok {
				t.Errorf("At(%d) = %v, %v", i, name, ok)
			}
		}
		if x.Count() != 0 || len(x.Gens()) != 0 || len(x.Free()) != 0 {
			t.Error(x.Count(), x.Gens(), x.Free())
		}
	}
}

// What the zero value tells is open, but nothing panics.
func TestTheZeroValueEnds(t *testing.T) {
	x := &ids.Ids{}
	for range 3 {
		x.Take()
		for _, i := range asked(2) {
			x.Give(id(i, 0))
			x.Alive(id(i, 0))
			x.At(i)
		}
		x.Count()
		x.Gens()
		x.Free()
	}
}

// P6.4

func TestLoadOfNothing(t *testing.T) {
	for _, c := range manyEntities {
		for _, k := range manyGens {
			for _, l := range [][]int{nil, {}, spare()} {
				x := load(t, c.n, k.n, l, l)
				newTwin(c.want, k.want).alike(t, x, fmt.Sprintf("Load(%d, %d) of nothing", c.n, k.n))
				takes(t, x, id(0, 0))
			}
			none(t, c.n, k.n, nil, []int{0})
		}
	}
}

func TestLoadHasTheNearestNumberOfEntities(t *testing.T) {
	for _, c := range manyEntities {
		for _, gen := range []int{0, 1, 2, 3} {
			x := load(t, c.n, 3, slices.Repeat([]int{gen}, c.want), nil)
			full(t, x)
			if want := c.want * btoi(gen < 3); x.Count() != want {
				t.Errorf("Load(%d) of generation %d: %d alive, not %d", c.n, gen, x.Count(), want)
			}
			none(t, c.n, 3, slices.Repeat([]int{gen}, c.want+1), nil)
			none(t, c.n, 3, slices.Repeat([]int{gen}, c.want+2000), nil)
			if c.want > 1 {
				x = load(t, c.n, 3, slices.Repeat([]int{gen}, c.want-1), nil)
				takes(t, x, id(c.want-1, 0))
				full(t, x)
			}
		}
	}
}

func TestLoadOfEachGeneration(t *testing.T) {
	for _, k := range manyGens {
		for _, gen := range []int{math.MinInt, -1 << 32, -2, -1, k.want + 1, k.want + 2, k.want + 1<<32, math.MaxInt} {
			none(t, 4, k.n, []int{gen}, nil)
			none(t, 4, k.n, []int{gen, 0}, nil)
			none(t, 4, k.n, []int{0, gen}, nil)
			none(t, 4, k.n, []int{0, 1, gen, 1}, nil)
			none(t, 4, k.n, []int{gen}, []int{0})
		}
		for _, gen := range []int{0, 1, k.want - 1, k.want} {
			x := load(t, 4, k.n, []int{0, gen}, nil)
			w := newTwin(4, k.want)
			w.g = []int{0, gen}
			w.alike(t, x, fmt.Sprintf("Load(4, %d, 0 %d)", k.n, gen))
		}
	}
}

func TestLoadOfEachFree(t *testing.T) {
	for _, k := range manyGens {
		for _, i := range []int{math.MinInt, -1 << 32, -2, -1, 3, 4, 5, 1023, 1024, 1 << 32, math.MaxInt} {
			none(t, 5, k.n, []int{1, 1, 1}, []int{i})
		}
		none(t, 5, k.n, []int{0, 0, 0}, []int{1})
		none(t, 5, k.n, []int{1, k.want, 1}, []int{1})
		for _, gen := range []int{1, 2, k.want - 1} {
			if gen < 1 || gen >= k.want {
				continue
			}
			x := load(t, 3, k.n, []int{0, gen, 0}, []int{1})
			w := newTwin(3, k.want)
			w.g, w.free = []int{0, gen, 0}, []int{1}
			w.alike(t, x, fmt.Sprintf("Load(3, %d) with 1 of %d free", k.n, gen))
			takes(t, x, id(1, gen))
			full(t, x)
			none(t, 3, k.n, []int{0, gen, 0}, []int{1, 1})
			none(t, 3, k.n, []int{0, gen, 0}, []int{0, 1})
			none(t, 3, k.n, []int{0, gen, 0}, []int{1, 2})
			none(t, 3, k.n, []int{gen, gen, gen}, []int{2, 0, 2})
			none(t, 3, k.n, []int{gen, gen, gen}, []int{2, 1, 0, 0})
			none(t, 3, k.n, []int{gen, gen, gen}, []int{2, 1, 0, 3})
			none(t, 3, k.n, []int{gen, gen, gen}, []int{-1, 2, 1, 0})
			x = load(t, 3, k.n, []int{gen, gen, gen}, []int{2, 0, 1})
			for _, i := range []int{1, 0, 2} {
				takes(t, x, id(i, gen))
			}
			full(t, x)
		}
	}
	none(t, 3, 3, []int{1, 1}, slices.Repeat([]int{1}, 5000))
}

// Every Gens and Free of few numbers, some of which may be.
func TestLoadOfAllSmallOnes(t *testing.T) {
	for entities := -1; entities < 4; entities++ {
		for gens := -1; gens < 4; gens++ {
			for _, g := range rows(3, -1, 4) {
				for _, free := range rows(3, -1, 3) {
					w := newTwin(max(1, entities), max(1, gens))
					w.g, w.free = g, free
					x, e := ids.Load(entities, gens, g, free)
					if !w.right() {
						if x != nil || e != api.ErrForm {
							t.Fatalf("Load(%d, %d, %v, %v): error %d", entities, gens, g, free, int(e))
						}
						continue
					}
					if e != api.OK {
						t.Fatalf("Load(%d, %d, %v, %v): error %d", entities, gens, g, free, int(e))
					}
					w.alike(t, x, fmt.Sprintf("Load(%d, %d, %v, %v)", entities, gens, g, free))
				}
			}
		}
	}
}

// rows: all lists of no more than long numbers from low to high.
func rows(long, low, high int) [][]int {
	out := [][]int{{}}
	for from := 0; long > 0; long-- {
		until := len(out)
		for _, l := range out[from:until] {
			for n := low; n <= high; n++ {
				out = append(out, append(slices.Clone(l), n))
			}
		}
		from = until
	}
	return out
}

// right: may the twin's g and free be?
func (w *twin) right() bool {
	if len(w.g) > w.entities {
		return false
	}
	for _, gen := range w.g {
		if gen < 0 || gen > w.gens {
			return false
		}
	}
	for n, i := range w.free {
		if i < 0 || i >= len(w.g) || slices.Contains(w.free[:n], i) || w.g[i] == 0 || w.g[i] >= w.gens {
			return false
		}
	}
	return true
}

// P6.5

// step: the same is done to all, and they tell the same.
func step(t *testing.T, c *chance, w *twin, l ...*ids.Ids) (api.ID, bool) {
	t.Helper()
	if c.below(2) == 0 {
		want, f := w.take()
		for _, x := range l {
			if got, e := x.Take(); got != want || e != f {
				t.Fatalf("Take: %v, error %d; not %v, error %d", got, int(e), want, int(f))
			}
		}
		return want, f == api.OK
	}
	i := c.below(w.entities+2) - 1
	gen := c.below(w.gens+3) - 1
	if name, ok := w.at(i); ok && c.below(4) > 0 {
		gen = name.Gen
	}
	f := w.give(id(i, gen))
	for _, x := range l {
		if e := x.Give(id(i, gen)); e != f {
			t.Fatalf("Give(%d/%d): error %d, not %d", i, gen, int(e), int(f))
		}
	}
	return api.ID{}, false
}

func TestLongRuns(t *testing.T) {
	for seed := range 150 {
		c := chance(seed)
		entities, gens := one(&c, []int{1, 2, 3, 5, 8, 13}), one(&c, []int{1, 2, 3, 7, 50, 1 << 30})
		x, w := ids.New(entities, gens), newTwin(entities, gens)
		for turn := range 300 {
			step(t, &c, w, x)
			w.alike(t, x, fmt.Sprint("run ", seed, ", turn ", turn))
		}
	}
}

func TestNoIDIsTakenTwice(t *testing.T) {
	for seed := range 60 {
		c := chance(seed)
		entities, gens := one(&c, []int{1, 2, 7, 30, 100}), one(&c, []int{1, 2, 5, 20, 1 << 30})
		x, w := ids.New(entities, gens), newTwin(entities, gens)
		seen := map[api.ID]bool{}
		for range 5000 {
			name, ok := step(t, &c, w, x)
			if !ok {
				continue
			}
			if seen[name] {
				t.Fatalf("%v is taken twice", name)
			}
			seen[name] = true
			if c.below(100) == 0 {
				x = load(t, entities, gens, x.Gens(), x.Free())
			}
		}
		if len(seen) > entities*gens {
			t.Fatalf("%d were taken of %d times %d", len(seen), entities, gens)
		}
	}
}

func TestAllIDsAreTakenOnce(t *testing.T) {
	for _, c := range []struct{ entities, gens int }{{1, 1}, {1, 9}, {9, 1}, {7, 5}, {1024, 3}} {
		x := ids.New(c.entities, c.gens)
		seen := map[api.ID]bool{}
		for range c.entities * c.gens {
			name, e := x.Take()
			if e != api.OK || seen[name] || name.Index < 0 || name.Index >= c.entities || name.Gen < 0 || name.Gen >= c.gens {
				t.Fatalf("Take: %v, error %d, seen %v", name, int(e), seen[name])
			}
			seen[name] = true
			gives(t, x, name)
		}
		full(t, x)
		if x.Count() != 0 || len(x.Free()) != 0 || !slices.Equal(x.Gens(), slices.Repeat([]int{c.gens}, c.entities)) {
			t.Error("all are used up:", x.Count(), x.Free())
		}
	}
}

func TestLoadGoesOnTheSame(t *testing.T) {
	for seed := range 150 {
		c := chance(seed)
		entities, gens := one(&c, []int{1, 2, 3, 6, 10}), one(&c, []int{1, 2, 3, 7, 1 << 30})
		x, w := ids.New(entities, gens), newTwin(entities, gens)
		for range c.below(80) {
			step(t, &c, w, x)
		}
		was := told(x)
		y := load(t, entities, gens, x.Gens(), x.Free())
		if told(x) != was || told(y) != was {
			t.Fatalf("run %d: %s and %s, not %s", seed, told(x), told(y), was)
		}
		for turn := range 100 {
			step(t, &c, w, x, y)
			w.alike(t, x, fmt.Sprint("run ", seed, ", turn ", turn, ", the first one"))
			w.alike(t, y, fmt.Sprint("run ", seed, ", turn ", turn, ", the loaded one"))
		}
	}
}

func TestALoadedOneAndTheFirstOneAreApart(t *testing.T) {
	x := load(t, 5, 5, []int{0, 1, 2}, []int{2, 1})
	y := load(t, 5, 5, x.Gens(), x.Free())
	was := told(y)
	takes(t, x, id(1, 1))
	gives(t, x, id(0, 0))
	takes(t, x, id(0, 1))
	takes(t, x, id(2, 2))
	takes(t, x, id(3, 0))
	if told(y) != was {
		t.Errorf("%s, not %s", told(y), was)
	}
	takes(t, y, id(1, 1))
	takes(t, y, id(2, 2))
	takes(t, y, id(3, 0))
}

// What holds everywhere

func TestArgumentsStayAsTheyAre(t *testing.T) {
	for _, c := range []struct{ g, free []int }{
		{nil, nil}, {[]int{0}, nil}, {[]int{1, 2, 3}, []int{2, 0, 1}}, {[]int{4, 0, 3}, []int{2}},
		{[]int{9}, nil}, {[]int{-1}, nil}, {[]int{1, 2}, []int{1, 1}}, {[]int{1, 2}, []int{5}}, {[]int{1, 1, 1, 1, 1, 1, 1}, []int{3}},
	} {
		g, free := spare(c.g...), spare(c.free...)
		x, e := ids.Load(5, 4, g, free)
		if !untouched(g, c.g...) || !untouched(free, c.free...) {
			t.Errorf("Load changed %v and %v", g[:cap(g)], free[:cap(free)])
		}
		if e != api.OK {
			continue
		}
		for range 30 {
			name, _ := x.Take()
			x.Give(name)
			x.Give(id(0, 0))
		}
		for range 6 {
			x.Take()
		}
		for i := range 5 {
			if name, ok := x.At(i); ok {
				x.Give(name)
			}
		}
		if !untouched(g, c.g...) || !untouched(free, c.free...) {
			t.Errorf("Takes and Gives changed what Load was handed: %v and %v", g[:cap(g)], free[:cap(free)])
		}
	}
}

func TestLoadKeepsNothingOfItsArguments(t *testing.T) {
	g, free := spare(1, 2, 3, 0), spare(2, 0)
	x := load(t, 6, 5, g, free)
	was := told(x)
	overwrite(g, 4)
	overwrite(free, 3)
	if told(x) != was {
		t.Errorf("%s, not %s", told(x), was)
	}
	takes(t, x, id(0, 1))
	takes(t, x, id(2, 3))
	takes(t, x, id(4, 0))
}

func TestLoadOfOneListForBoth(t *testing.T) {
	l := spare(1, 2, 0)
	none(t, 5, 5, l, l)
	l = spare(1, 1)
	none(t, 5, 5, l, l)
	l = spare(2, 1, 1)
	none(t, 5, 5, l, l)
	x := load(t, 5, 5, l, l[:2])
	has(t, x, []int{2, 1, 1}, []int{2, 1})
	takes(t, x, id(1, 1))
	takes(t, x, id(2, 1))
	gives(t, x, id(0, 2))
	has(t, x, []int{3, 1, 1}, []int{0})
	if !untouched(l, 2, 1, 1) {
		t.Error("what was handed in was changed:", l[:cap(l)])
	}
}

func TestListsAreNewMemory(t *testing.T) {
	x, w := ids.New(20, 5), newTwin(20, 5)
	c := chance(4)
	for turn := range 300 {
		step(t, &c, w, x)
		gens, free := x.Gens(), x.Free()
		overwrite(x.Gens(), 9)
		overwrite(x.Free(), 9)
		if !slices.Equal(gens, w.g) || !slices.Equal(free, w.free) {
			t.Fatalf("turn %d: an answer was overwritten by another one", turn)
		}
		overwrite(gens, 8)
		if !slices.Equal(free, w.free) {
			t.Fatalf("turn %d: Gens and Free share memory", turn)
		}
		overwrite(free, 8)
		w.alike(t, x, fmt.Sprint("turn ", turn, ", answers overwritten"))
	}
}

func TestAnswersStayAsTheyAre(t *testing.T) {
	x := load(t, 8, 9, []int{1, 2, 3, 0}, []int{2, 0, 1})
	gens, free := x.Gens(), x.Free()
	takes(t, x, id(1, 2))
	takes(t, x, id(0, 1))
	gives(t, x, id(3, 0))
	gives(t, x, id(0, 1))
	takes(t, x, id(0, 2))
	takes(t, x, id(3, 1))
	takes(t, x, id(2, 3))
	takes(t, x, id(4, 0))
	if !slices.Equal(gens, []int{1, 2, 3, 0}) || !slices.Equal(free, []int{2, 0, 1}) {
		t.Errorf("later calls changed answers: %v, %v", gens, free)
	}
}

func TestTwoOfThemAreApart(t *testing.T) {
	x, y := ids.New(4, 4), ids.New(4, 4)
	takes(t, x, id(0, 0))
	takes(t, x, id(1, 0))
	gives(t, x, id(0, 0))
	has(t, y, nil, nil)
	takes(t, y, id(0, 0))
	takes(t, x, id(0, 1))
	if x.Count() != 2 || y.Count() != 1 {
		t.Error(x.Count(), y.Count())
	}
}

func TestTheSameCallsTellTheSame(t *testing.T) {
	run := func() string {
		x, w, c := ids.New(30, 6), newTwin(30, 6), chance(77)
		for range 400 {
			step(t, &c, w, x)
		}
		return told(x)
	}
	first := run()
	for range 20 {
		if run() != first {
			t.Fatal("the same calls on two of them tell not the same")
		}
	}
}
