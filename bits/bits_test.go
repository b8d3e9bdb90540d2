package bits_test

import (
	"math"
	"slices"
	"testing"

	"vivarium/bits"
)

const all = math.MaxUint64

// chance: numbers that look mixed, the same ones for the same seed.
type chance uint64

// next: the next 64 mixed bits.
func (c *chance) next() uint64 {
	*c = *c*6364136223846793005 + 1442695040888963407
	high := uint64(*c) >> 32
	*c = *c*6364136223846793005 + 1442695040888963407
	return high<<32 | uint64(*c)>>32
}

// below: the next number from 0 on, below n.
func (c *chance) below(n int) int {
	return int(c.next()>>1) % n
}

// members: which of the numbers from 0 to 63 are in s, halved again and again as numbers are written in binary digits.
func members(s uint64) [64]bool {
	var out [64]bool
	for c := range out {
		out[c] = s%2 == 1
		s /= 2
	}
	return out
}

// setOf: the number that stands for these, a sum of powers of 2.
func setOf(in [64]bool) uint64 {
	s, power := uint64(0), uint64(1)
	for _, has := range in {
		if has {
			s += power
		}
		power *= 2
	}
	return s
}

// may: may c be in a set?
func may(c int) bool {
	return 0 <= c && c <= 63
}

// wrong: numbers that may not be in a set.
func wrong() []int {
	out := []int{math.MinInt, math.MinInt + 1, math.MinInt + 63, math.MinInt32, -1 << 32, 1<<32 - 1, 1 << 32, 1<<32 + 1, 1<<32 + 63, math.MaxInt32, math.MaxInt - 1, math.MaxInt, 1 << 8, 1<<8 + 5, 1 << 16, 1<<16 + 5, 1000000}
	for c := 1; c <= 130; c++ {
		out = append(out, -c, 63+c)
	}
	return out
}

// asked: numbers to ask with, all that may be and wrong ones.
func asked() []int {
	var out []int
	for c := range 64 {
		out = append(out, c)
	}
	return append(out, wrong()...)
}

// sets: the empty one, that of all, single numbers and all but one, two numbers, rows from the front and to the back, and mixed ones.
func sets() []uint64 {
	out := []uint64{0, all, 21, 0x5555555555555555, 0xaaaaaaaaaaaaaaaa, 0x00000000ffffffff, 0xffffffff00000000, 1<<63 | 1, 1<<63 | 9, 1<<32 | 1<<31}
	for c := range 64 {
		out = append(out, 1<<c, ^uint64(1<<c), all<<c, all>>c, 1<<c|1, 1<<c|1<<63, 3<<c)
	}
	mixed := chance(5)
	for range 200 {
		s := mixed.next()
		out = append(out, s, s&mixed.next(), s|mixed.next(), s&mixed.next()&mixed.next())
	}
	return out
}

// fewSets: those that are held against one another, two by two.
func fewSets() []uint64 {
	out := []uint64{0, all, 1, 2, 3, 21, 1 << 31, 1 << 32, 1<<32 | 1<<31, 1 << 62, 1 << 63, 1<<63 | 1, all >> 1, all - 1, 0x00000000ffffffff, 0xffffffff00000000}
	mixed := chance(8)
	for range 60 {
		s := mixed.next()
		out = append(out, s, ^s, s&mixed.next(), s|mixed.next())
	}
	return out
}

// spare: these numbers, with spare room behind them that has 7s.
func spare(l ...int) []int {
	room := append(slices.Clone(l), slices.Repeat([]int{7}, 8)...)
	return room[:len(l)]
}

// untouched: has l, made by spare, still these numbers, and its spare room, too?
func untouched(l []int, want ...int) bool {
	room := l[:cap(l)]
	return slices.Equal(l, want) && slices.Equal(room[len(l):len(l)+8], slices.Repeat([]int{7}, 8))
}

// P5.1

func TestOfSingleNumbers(t *testing.T) {
	for c := range 64 {
		var in [64]bool
		in[c] = true
		if got := bits.Of(c); got != setOf(in) {
			t.Errorf("Of(%d) = %#x, not %#x", c, got, setOf(in))
		}
	}
	for _, x := range []struct {
		c    int
		want uint64
	}{{0, 1}, {1, 2}, {31, 0x80000000}, {32, 0x100000000}, {62, 0x4000000000000000}, {63, 0x8000000000000000}} {
		if got := bits.Of(x.c); got != x.want {
			t.Errorf("Of(%d) = %#x, not %#x", x.c, got, x.want)
		}
	}
}

func TestOfNumbersThatMayNotBe(t *testing.T) {
	for _, c := range wrong() {
		if got := bits.Of(c); got != 0 {
			t.Errorf("Of(%d) = %#x", c, got)
		}
		for _, l := range [][]int{{c, 0, 63}, {0, c, 63}, {0, 63, c}, {c, 0, c, 63, c}} {
			if got := bits.Of(l...); got != 1<<63|1 {
				t.Errorf("Of(%v) = %#x", l, got)
			}
		}
	}
	if got := bits.Of(wrong()...); got != 0 {
		t.Errorf("Of all wrong numbers = %#x", got)
	}
	if got := bits.Of(asked()...); got != all {
		t.Errorf("Of all numbers, wrong ones too = %#x", got)
	}
}

func TestOfNothing(t *testing.T) {
	for _, l := range [][]int{nil, {}, spare()} {
		if got := bits.Of(l...); got != 0 {
			t.Errorf("Of no numbers = %#x", got)
		}
	}
	if got := bits.Of(); got != 0 {
		t.Errorf("Of() = %#x", got)
	}
}

func TestOfNumbersTwice(t *testing.T) {
	for c := range 64 {
		if got := bits.Of(c, c); got != bits.Of(c) {
			t.Errorf("Of(%d, %d) = %#x", c, c, got)
		}
		if got := bits.Of(c, 5, c, 5, c); got != bits.Of(5, c) {
			t.Errorf("Of(%d, 5, %d, 5, %d) = %#x", c, c, c, got)
		}
	}
	if got := bits.Of(slices.Repeat([]int{63, 0, -1, 64}, 1000)...); got != 1<<63|1 {
		t.Errorf("Of many = %#x", got)
	}
}

func TestOfNumbersInAnyOrder(t *testing.T) {
	if bits.Of(4, 0, 2) != 21 || bits.Of(0, 2, 4) != 21 || bits.Of(2, 4, 0) != 21 {
		t.Error("Of 0, 2 and 4")
	}
	if got := bits.Of(3, 0, 3, -1, 64, 63); got != 1<<63|9 {
		t.Errorf("Of(3, 0, 3, -1, 64, 63) = %#x", got)
	}
	mixed, numbers := chance(3), asked()
	for range 2000 {
		l := make([]int, mixed.below(80))
		var in [64]bool
		for i := range l {
			l[i] = numbers[mixed.below(len(numbers))]
			if may(l[i]) {
				in[l[i]] = true
			}
		}
		if got := bits.Of(l...); got != setOf(in) {
			t.Fatalf("Of(%v) = %#x, not %#x", l, got, setOf(in))
		}
	}
}

func TestWith(t *testing.T) {
	for _, s := range sets() {
		for _, c := range asked() {
			in := members(s)
			if may(c) {
				in[c] = true
			}
			if got := bits.With(s, c); got != setOf(in) {
				t.Fatalf("With(%#x, %d) = %#x, not %#x", s, c, got, setOf(in))
			}
		}
	}
}

func TestWithout(t *testing.T) {
	for _, s := range sets() {
		for _, c := range asked() {
			in := members(s)
			if may(c) {
				in[c] = false
			}
			if got := bits.Without(s, c); got != setOf(in) {
				t.Fatalf("Without(%#x, %d) = %#x, not %#x", s, c, got, setOf(in))
			}
		}
	}
}

func TestWithANumberThatIsIn(t *testing.T) {
	for _, s := range sets() {
		for c, in := range members(s) {
			if got := bits.With(s, c); in && got != s {
				t.Errorf("With(%#x, %d) = %#x", s, c, got)
			}
		}
	}
	if bits.With(21, 2) != 21 || bits.With(21, 1) != 23 || bits.With(all, 63) != all || bits.With(0, 63) != 1<<63 {
		t.Error("With")
	}
}

func TestWithoutANumberThatIsNotIn(t *testing.T) {
	for _, s := range sets() {
		for c, in := range members(s) {
			if got := bits.Without(s, c); !in && got != s {
				t.Errorf("Without(%#x, %d) = %#x", s, c, got)
			}
		}
	}
	if bits.Without(21, 1) != 21 || bits.Without(21, 2) != 17 || bits.Without(0, 63) != 0 || bits.Without(1<<63, 63) != 0 {
		t.Error("Without")
	}
}

func TestNumbersThatMayNotBeChangeNothing(t *testing.T) {
	for _, s := range sets() {
		for _, c := range wrong() {
			if bits.With(s, c) != s || bits.Without(s, c) != s || bits.Has(s, c) {
				t.Fatalf("of %#x and %d: With %#x, Without %#x, Has %v", s, c, bits.With(s, c), bits.Without(s, c), bits.Has(s, c))
			}
		}
	}
}

func TestHas(t *testing.T) {
	for _, s := range sets() {
		in := members(s)
		for _, c := range asked() {
			if got, want := bits.Has(s, c), may(c) && in[c]; got != want {
				t.Fatalf("Has(%#x, %d) = %v", s, c, got)
			}
		}
	}
	if !bits.Has(21, 0) || bits.Has(21, 1) || !bits.Has(1<<63, 63) || bits.Has(1<<63, 31) || !bits.Has(1<<32, 32) || bits.Has(1<<32, 0) {
		t.Error("Has")
	}
}

func TestList(t *testing.T) {
	if got := bits.List(21); !slices.Equal(got, []int{0, 2, 4}) {
		t.Errorf("List(21) = %v", got)
	}
	for _, s := range sets() {
		var want []int
		for c, in := range members(s) {
			if in {
				want = append(want, c)
			}
		}
		if got := bits.List(s); !slices.Equal(got, want) {
			t.Fatalf("List(%#x) = %v, not %v", s, got, want)
		}
	}
}

func TestListOfTheEmptySetOfAllAndOfSingleNumbers(t *testing.T) {
	if got := bits.List(0); len(got) != 0 {
		t.Errorf("List(0) = %v", got)
	}
	every := bits.List(all)
	if len(every) != 64 {
		t.Fatalf("List of all = %v", every)
	}
	for c := range 64 {
		if every[c] != c {
			t.Errorf("List of all: at %d %d", c, every[c])
		}
		if got := bits.List(1 << c); !slices.Equal(got, []int{c}) {
			t.Errorf("List of %d alone = %v", c, got)
		}
	}
}

func TestCount(t *testing.T) {
	if bits.Count(0) != 0 || bits.Count(all) != 64 || bits.Count(21) != 3 || bits.Count(1<<63|9) != 3 || bits.Count(all>>1) != 63 {
		t.Error("Count")
	}
	for c := range 64 {
		if one, others := bits.Count(1<<c), bits.Count(^uint64(1<<c)); one != 1 || others != 63 {
			t.Errorf("Count of %d alone = %d, of all others %d", c, one, others)
		}
	}
	for _, s := range sets() {
		want := 0
		for _, in := range members(s) {
			if in {
				want++
			}
		}
		if got := bits.Count(s); got != want {
			t.Errorf("Count(%#x) = %d, not %d", s, got, want)
		}
	}
}

func TestWithinAndApart(t *testing.T) {
	for _, a := range fewSets() {
		for _, b := range fewSets() {
			within, apart := true, true
			inB := members(b)
			for c, in := range members(a) {
				within = within && (!in || inB[c])
				apart = apart && !(in && inB[c])
			}
			if got := bits.Within(a, b); got != within {
				t.Errorf("Within(%#x, %#x) = %v", a, b, got)
			}
			if got := bits.Apart(a, b); got != apart {
				t.Errorf("Apart(%#x, %#x) = %v", a, b, got)
			}
		}
	}
}

func TestWithinAndApartOfOneNumberMoreOrLess(t *testing.T) {
	for c := range 64 {
		one, others := uint64(1<<c), ^uint64(1<<c)
		if !bits.Within(one, all) || bits.Within(all, others) || !bits.Within(others, all) || bits.Within(one, others) {
			t.Errorf("Within, of %d", c)
		}
		if !bits.Apart(one, others) || !bits.Apart(others, one) || bits.Apart(one, all) || bits.Apart(all, one) {
			t.Errorf("Apart, of %d", c)
		}
		for d := range 64 {
			if got := bits.Within(one, 1<<d); got != (c == d) {
				t.Errorf("Within of %d alone and %d alone = %v", c, d, got)
			}
			if got := bits.Apart(one, 1<<d); got != (c != d) {
				t.Errorf("Apart of %d alone and %d alone = %v", c, d, got)
			}
		}
	}
}

func TestWithinAndApartOfASetAndItself(t *testing.T) {
	for _, s := range sets() {
		if !bits.Within(s, s) {
			t.Errorf("Within(%#x, %#x) = false", s, s)
		}
		if got := bits.Apart(s, s); got != (s == 0) {
			t.Errorf("Apart(%#x, %#x) = %v", s, s, got)
		}
	}
}

func TestWithinAndApartOfASetAndTheEmptySet(t *testing.T) {
	for _, s := range sets() {
		if !bits.Within(0, s) || !bits.Apart(0, s) || !bits.Apart(s, 0) {
			t.Errorf("the empty set and %#x: Within %v, Apart %v %v", s, bits.Within(0, s), bits.Apart(0, s), bits.Apart(s, 0))
		}
		if got := bits.Within(s, 0); got != (s == 0) {
			t.Errorf("Within(%#x, 0) = %v", s, got)
		}
	}
}

func TestWithinAndApartOfASetAndItsComplement(t *testing.T) {
	for _, s := range sets() {
		if !bits.Apart(s, ^s) || !bits.Apart(^s, s) {
			t.Errorf("Apart of %#x and its complement: %v %v", s, bits.Apart(s, ^s), bits.Apart(^s, s))
		}
		if got := bits.Within(s, ^s); got != (s == 0) {
			t.Errorf("Within of %#x and its complement = %v", s, got)
		}
	}
}

// P5.2

func TestOfOfListIsTheSet(t *testing.T) {
	for _, s := range sets() {
		if got := bits.Of(bits.List(s)...); got != s {
			t.Errorf("Of of List of %#x = %#x", s, got)
		}
		if got := len(bits.List(s)); got != bits.Count(s) {
			t.Errorf("List of %#x has %d, Count is %d", s, got, bits.Count(s))
		}
	}
	for a := range 64 {
		for b := range 64 {
			s := uint64(1)<<a | uint64(1)<<b
			if got := bits.Of(bits.List(s)...); got != s {
				t.Errorf("Of of List of %d and %d = %#x", a, b, got)
			}
		}
	}
}

func TestListOfOfIsTheNumbersThatMayBe(t *testing.T) {
	mixed, numbers := chance(11), asked()
	for range 1000 {
		l := make([]int, mixed.below(40))
		for i := range l {
			l[i] = numbers[mixed.below(len(numbers))]
		}
		want := slices.DeleteFunc(slices.Clone(l), func(c int) bool { return !may(c) })
		slices.Sort(want)
		want = slices.Compact(want)
		if got := bits.List(bits.Of(l...)); !slices.Equal(got, want) {
			t.Fatalf("List of Of %v = %v, not %v", l, got, want)
		}
	}
}

func TestWithAndWithoutUndoOneAnother(t *testing.T) {
	for _, s := range sets() {
		for c := range 64 {
			if bits.Has(s, c) {
				if got := bits.With(bits.Without(s, c), c); got != s {
					t.Errorf("%#x without and with %d = %#x", s, c, got)
				}
			} else if got := bits.Without(bits.With(s, c), c); got != s {
				t.Errorf("%#x with and without %d = %#x", s, c, got)
			}
		}
	}
}

func TestNothingToUndo(t *testing.T) {
	for _, s := range sets() {
		for c := range 64 {
			with, without := bits.With(s, c), bits.Without(s, c)
			if !bits.Has(with, c) || bits.Has(without, c) {
				t.Errorf("of %#x and %d: With %#x, Without %#x", s, c, with, without)
			}
			if bits.Without(with, c) != without || bits.With(without, c) != with || bits.With(with, c) != with || bits.Without(without, c) != without {
				t.Errorf("of %#x and %d: a second With or Without", s, c)
			}
		}
		for _, c := range wrong() {
			if bits.Without(bits.With(s, c), c) != s || bits.With(bits.Without(s, c), c) != s {
				t.Fatalf("of %#x: With and Without of %d", s, c)
			}
		}
	}
}

// What holds everywhere

func TestArgumentsStayAsTheyAre(t *testing.T) {
	for _, l := range [][]int{{}, {3}, {63, 0, 3, 0}, {-1, 64, 5, math.MinInt, math.MaxInt}, {9, 8, 7, 7, 7, 1}} {
		handed := spare(l...)
		want := bits.Of(slices.Clone(l)...)
		for range 2 {
			if got := bits.Of(handed...); got != want {
				t.Errorf("Of(%v) = %#x, not %#x", l, got, want)
			}
		}
		if !untouched(handed, l...) {
			t.Errorf("what was handed in was changed: %v", handed[:cap(handed)])
		}
	}
}

func TestNothingIsKeptOfArguments(t *testing.T) {
	l := []int{1, 2, 3}
	s := bits.Of(l...)
	clear(l)
	if s != 14 || bits.Of(l...) != 1 || bits.Of(1, 2, 3) != 14 {
		t.Error("a set hangs on numbers of an earlier call")
	}
}

func TestListsAreNewMemory(t *testing.T) {
	for _, s := range sets() {
		one, two := bits.List(s), bits.List(s)
		want := slices.Clone(two)
		one = one[:cap(one)]
		for i := range one {
			one[i] = -9
		}
		if !slices.Equal(two, want) || !slices.Equal(bits.List(s), want) {
			t.Fatalf("lists of %#x share memory", s)
		}
		for _, grown := range [][]int{append(two, 99), append(bits.List(s), 98)} {
			if !slices.Equal(grown[:len(want)], want) {
				t.Fatalf("a grown list of %#x: %v", s, grown)
			}
		}
	}
}

func TestTheSameArgumentsTheSameAnswer(t *testing.T) {
	first := bits.List(1<<63 | 9)
	for _, s := range sets() {
		bits.List(s)
		bits.Of(bits.Count(s))
	}
	if !slices.Equal(first, bits.List(1<<63|9)) || bits.Of(3, 0, 63) != 1<<63|9 {
		t.Error("an answer hangs on earlier calls")
	}
}
