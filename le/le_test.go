package le_test

import (
	"bytes"
	"math"
	"strings"
	"testing"

	"vivarium/api"
	"vivarium/le"
)

// numbers: edges of each width, and some between them.
func numbers() []int {
	out := []int{0, 1, -1, 2, -2, 0x0102030405060708, math.MaxInt, math.MinInt}
	for bit := range 63 {
		out = append(out, 1<<bit, 1<<bit-1, -1<<bit, -1<<bit-1)
	}
	return out
}

// widthOf: the width that is meant by any width.
func widthOf(width int) int {
	switch {
	case width < 1:
		return 1
	case width > 8:
		return 8
	}
	return width
}

// kept: what stays of n in so many bytes, as a number.
func kept(n, width int) int {
	if width == 8 {
		return n
	}
	return n & (1<<(8*width) - 1)
}

// spare: b with spare room behind it that has bytes 0xee.
func spare(b ...byte) []byte {
	room := append(bytes.Clone(b), bytes.Repeat([]byte{0xee}, 32)...)
	return room[:len(b)]
}

// overwrite: all of b's bytes, its spare room too, are n from now on.
func overwrite(b []byte, n byte) {
	b = b[:cap(b)]
	for i := range b {
		b[i] = n
	}
}

// untouched: does b, made by spare, still have these bytes, and its spare room, too?
func untouched(b []byte, want ...byte) bool {
	room := b[:cap(b)]
	return bytes.Equal(b, want) && bytes.Equal(room[len(b):len(b)+32], bytes.Repeat([]byte{0xee}, 32))
}

// apart: an answer of f shares no memory with what f was handed, and f changes nothing of that.
func apart(t *testing.T, name string, f func(b []byte) []byte) {
	t.Helper()
	in := spare(1, 2, 3)
	out := f(in)
	if !untouched(in, 1, 2, 3) {
		t.Errorf("%s changed what it was handed: %v", name, in[:cap(in)])
	}
	want := bytes.Clone(out)
	overwrite(in, 0x77)
	if !bytes.Equal(out, want) {
		t.Errorf("%s shares its answer with its argument: %v, not %v", name, out, want)
	}
	in = spare(1, 2, 3)
	overwrite(f(in), 0x55)
	if !untouched(in, 1, 2, 3) {
		t.Errorf("%s hands out memory of its argument: %v", name, in[:cap(in)])
	}
}

// P1.1

func TestPutLowestFirst(t *testing.T) {
	for _, c := range []struct {
		width, n int
		want     []byte
	}{
		{2, 258, []byte{2, 1}},
		{1, 255, []byte{255}},
		{1, 0, []byte{0}},
		{4, 0x01020304, []byte{4, 3, 2, 1}},
		{8, 0x0102030405060708, []byte{8, 7, 6, 5, 4, 3, 2, 1}},
		{3, -2, []byte{0xfe, 0xff, 0xff}},
		{8, -1, bytes.Repeat([]byte{0xff}, 8)},
		{8, math.MinInt, []byte{0, 0, 0, 0, 0, 0, 0, 0x80}},
		{8, math.MaxInt, []byte{255, 255, 255, 255, 255, 255, 255, 0x7f}},
		{2, 0x12345, []byte{0x45, 0x23}},
		{1, math.MinInt, []byte{0}},
	} {
		if got := le.Put(nil, c.width, c.n); !bytes.Equal(got, c.want) {
			t.Errorf("Put(nil, %d, %d) = %v, not %v", c.width, c.n, got, c.want)
		}
		want := append([]byte{7, 9}, c.want...)
		if got := le.Put([]byte{7, 9}, c.width, c.n); !bytes.Equal(got, want) {
			t.Errorf("Put(7 9, %d, %d) = %v, not %v", c.width, c.n, got, want)
		}
	}
}

func TestWidthsAreTheNearest(t *testing.T) {
	row := []byte{1, 2, 3, 4, 5, 6, 7, 8, 9, 10}
	for _, width := range []int{math.MinInt, -9, -1, 0, 1, 2, 3, 4, 5, 6, 7, 8, 9, 64, math.MaxInt} {
		near := widthOf(width)
		if got := len(le.Put(nil, width, 5)); got != near {
			t.Errorf("Put of width %d puts %d bytes, not %d", width, got, near)
		}
		n, ok := le.Get(row, 1, width)
		m, also := le.Get(row, 1, near)
		if n != m || !ok || !also {
			t.Errorf("Get of width %d = %d %v; of width %d = %d %v", width, n, ok, near, m, also)
		}
		r := le.Read(row)
		if got := r.Num(width); r.Left() != len(row)-near || got != int(kept(0x0807060504030201, near)) {
			t.Errorf("Num of width %d = %d, %d left", width, got, r.Left())
		}
	}
}

func TestGetIsBelowZeroOnlyOfEightBytes(t *testing.T) {
	row := bytes.Repeat([]byte{0xff}, 8)
	for width := 1; width < 8; width++ {
		if n, ok := le.Get(row, 0, width); n != 1<<(8*width)-1 || !ok {
			t.Errorf("Get of width %d = %d %v", width, n, ok)
		}
	}
	if n, ok := le.Get(row, 0, 8); n != -1 || !ok {
		t.Errorf("Get of width 8 = %d %v", n, ok)
	}
	if n, ok := le.Get([]byte{0, 0, 0, 0, 0, 0, 0, 0x80}, 0, 8); n != math.MinInt || !ok {
		t.Errorf("Get of the least number = %d %v", n, ok)
	}
}

func TestGetAtEachPlace(t *testing.T) {
	row := []byte{10, 11, 12, 13, 14, 15, 16, 17, 18, 19, 20}
	places := []int{math.MinInt, math.MinInt + 8, -9, -8, -1, 0, 1, 2, 3, 4, 5, 6, 7, 8, 9, 10, 11, 12, 19, 1 << 62, math.MaxInt - 8, math.MaxInt}
	for _, at := range places {
		for width := 1; width <= 8; width++ {
			want, there := 0, at >= 0 && at <= len(row)-width
			for i := 0; there && i < width; i++ {
				want += int(row[at+i]) << (8 * i)
			}
			if n, ok := le.Get(row, at, width); n != want || ok != there {
				t.Errorf("Get at %d of width %d = %d %v, not %d %v", at, width, n, ok, want, there)
			}
		}
	}
	for width := range 10 {
		if n, ok := le.Get(nil, 0, width); n != 0 || ok {
			t.Errorf("Get of nothing = %d %v", n, ok)
		}
	}
}

func TestGetSeesNoSpareRoom(t *testing.T) {
	if n, ok := le.Get(spare(1, 2, 3), 2, 2); n != 0 || ok {
		t.Errorf("Get reads behind the end: %d %v", n, ok)
	}
}

func TestPutText(t *testing.T) {
	for _, c := range []struct {
		text string
		want []byte
	}{
		{"", []byte{0, 0}},
		{"abc", []byte{3, 0, 'a', 'b', 'c'}},
		{"\x00\xff", []byte{2, 0, 0, 0xff}},
		{"ä", []byte{2, 0, 0xc3, 0xa4}},
	} {
		if got := le.PutText(nil, c.text); !bytes.Equal(got, c.want) {
			t.Errorf("PutText(nil, %q) = %v, not %v", c.text, got, c.want)
		}
		if got := le.PutText([]byte{5}, c.text); !bytes.Equal(got, append([]byte{5}, c.want...)) {
			t.Errorf("PutText(5, %q) = %v", c.text, got)
		}
	}
}

func TestPutTextOfLongTexts(t *testing.T) {
	for _, long := range []int{255, 256, 257, api.MaxText - 1, api.MaxText, api.MaxText + 1, api.MaxText + 300, 3 * api.MaxText} {
		text := strings.Repeat("0123456789a", long/11+1)[:long]
		stays := min(long, api.MaxText)
		got := le.PutText([]byte{8}, text)
		want := append([]byte{8, byte(stays), byte(stays >> 8)}, text[:stays]...)
		if !bytes.Equal(got, want) {
			t.Errorf("PutText of %d bytes: %d bytes, not %d, or others", long, len(got), len(want))
		}
	}
	half := strings.Repeat("x", api.MaxText-1) + "ä"
	if got := le.PutText(nil, half); len(got) != 2+api.MaxText || got[len(got)-1] != 0xc3 {
		t.Errorf("PutText keeps other bytes than the first: %d", len(got))
	}
}

func TestCut(t *testing.T) {
	for _, c := range []struct {
		b    []byte
		n    int
		want []byte
	}{
		{[]byte{1, 2, 3}, 2, []byte{1, 2}},
		{[]byte{1, 2, 3}, 3, []byte{1, 2, 3}},
		{[]byte{1, 2, 3}, 5, []byte{1, 2, 3, 0, 0}},
		{[]byte{1, 2, 3}, 0, nil},
		{[]byte{1, 2, 3}, -1, nil},
		{[]byte{1, 2, 3}, math.MinInt, nil},
		{nil, 2, []byte{0, 0}},
		{nil, 0, nil},
		{spare(1), 3, []byte{1, 0, 0}},
	} {
		if got := le.Cut(c.b, c.n); !bytes.Equal(got, c.want) {
			t.Errorf("Cut(%v, %d) = %v, not %v", c.b, c.n, got, c.want)
		}
	}
}

func TestCutOfManyBytes(t *testing.T) {
	long := bytes.Repeat([]byte{6}, api.MaxText+9)
	for _, n := range []int{api.MaxText - 1, api.MaxText, api.MaxText + 1, 1 << 40, math.MaxInt} {
		near := min(n, api.MaxText)
		if got := le.Cut(long, n); !bytes.Equal(got, long[:near]) {
			t.Errorf("Cut to %d: %d bytes", n, len(got))
		}
		if got := le.Cut([]byte{4}, n); len(got) != near || got[0] != 4 || !bytes.Equal(got[1:], make([]byte, near-1)) {
			t.Errorf("Cut of one byte to %d: %d bytes", n, len(got))
		}
	}
}

func TestAnswersAreNewMemory(t *testing.T) {
	apart(t, "Put", func(b []byte) []byte { return le.Put(b, 2, 0x0909) })
	apart(t, "PutText", func(b []byte) []byte { return le.PutText(b, "hi") })
	apart(t, "PutText of nothing", func(b []byte) []byte { return le.PutText(b, "") })
	for _, n := range []int{0, 2, 3, 5} {
		apart(t, "Cut", func(b []byte) []byte { return le.Cut(b, n) })
	}
	apart(t, "Bytes", func(b []byte) []byte { return le.Read(b).Bytes(2) })
	apart(t, "all Bytes", func(b []byte) []byte { return le.Read(b).Bytes(3) })
	apart(t, "no Bytes", func(b []byte) []byte { return le.Read(b).Bytes(0) })
}

// P1.2

func TestReaderGoesOverBytes(t *testing.T) {
	r := le.Read([]byte{1, 2, 3, 2, 0, 'h', 'i', 9, 8, 7})
	if r.Left() != 10 || !r.OK() {
		t.Error("at the front:", r.Left(), r.OK())
	}
	if n := r.Num(2); n != 0x0201 || r.Left() != 8 {
		t.Error("Num:", n, r.Left())
	}
	if b := r.Bytes(1); !bytes.Equal(b, []byte{3}) || r.Left() != 7 {
		t.Error("Bytes:", b, r.Left())
	}
	if s := r.Text(); s != "hi" || r.Left() != 3 {
		t.Error("Text:", s, r.Left())
	}
	if b := r.Bytes(0); len(b) != 0 || r.Left() != 3 || !r.OK() {
		t.Error("no bytes:", b, r.Left())
	}
	if b := r.Bytes(3); !bytes.Equal(b, []byte{9, 8, 7}) || r.Left() != 0 || !r.OK() {
		t.Error("the last ones:", b, r.Left())
	}
	if b := r.Bytes(0); len(b) != 0 || !r.OK() {
		t.Error("no bytes at the end are there")
	}
}

func TestReaderOfNumbersBelowZero(t *testing.T) {
	r := le.Read(le.Put(le.Put(nil, 8, -3), 4, -3))
	if n := r.Num(8); n != -3 {
		t.Error(n)
	}
	if n := r.Num(4); n != 1<<32-3 || !r.OK() {
		t.Error(n)
	}
}

func TestBytesBelowZeroAreNone(t *testing.T) {
	for _, n := range []int{-1, -2, math.MinInt} {
		r := le.Read([]byte{5, 6})
		if b := r.Bytes(n); len(b) != 0 || r.Left() != 2 || !r.OK() {
			t.Errorf("Bytes(%d) = %v, %d left, %v", n, b, r.Left(), r.OK())
		}
		if b := r.Bytes(2); !bytes.Equal(b, []byte{5, 6}) || !r.OK() {
			t.Errorf("behind Bytes(%d): %v", n, b)
		}
	}
}

// misses: what a Reader may be asked for that it does not have.
func misses() map[string]func(r *le.Reader) bool {
	return map[string]func(r *le.Reader) bool{
		"Num(4)":        func(r *le.Reader) bool { return r.Num(4) == 0 },
		"Num(99)":       func(r *le.Reader) bool { return r.Num(99) == 0 },
		"Bytes(4)":      func(r *le.Reader) bool { return len(r.Bytes(4)) == 0 },
		"Bytes(MaxInt)": func(r *le.Reader) bool { return len(r.Bytes(math.MaxInt)) == 0 },
		"Text":          func(r *le.Reader) bool { return r.Text() == "" },
	}
}

func TestWhatIsNotThereTakesNoByte(t *testing.T) {
	for name, ask := range misses() {
		r := le.Read([]byte{2, 0, 7}) // as a text: cut short
		if !ask(r) || r.OK() || r.Left() != 3 {
			t.Errorf("%s: %d left, %v", name, r.Left(), r.OK())
		}
	}
}

func TestNothingComesBehindAMiss(t *testing.T) {
	for name, ask := range misses() {
		r := le.Read([]byte{1, 0, 7})
		r.Num(8)
		if !ask(r) || r.OK() || r.Left() != 3 {
			t.Errorf("%s behind a miss: %d left, %v", name, r.Left(), r.OK())
		}
	}
	r := le.Read([]byte{1, 0, 7})
	r.Bytes(4)
	if n := r.Num(1); n != 0 || r.Left() != 3 || r.OK() {
		t.Error("Num:", n)
	}
	if s := r.Text(); s != "" || r.Left() != 3 || r.OK() {
		t.Error("Text:", s)
	}
	for _, n := range []int{-1, 0, 1, 3} {
		if b := r.Bytes(n); len(b) != 0 || r.Left() != 3 || r.OK() {
			t.Error("Bytes:", n, b)
		}
	}
}

func TestReaderAtItsEnd(t *testing.T) {
	for _, b := range [][]byte{nil, {}, spare()} {
		if r := le.Read(b); r.Left() != 0 || !r.OK() {
			t.Error("nothing was missed yet")
		}
		if r := le.Read(b); r.Num(1) != 0 || r.OK() {
			t.Error("Num of no bytes")
		}
		if r := le.Read(b); r.Text() != "" || r.OK() {
			t.Error("Text of no bytes")
		}
		if r := le.Read(b); len(r.Bytes(1)) != 0 || r.OK() {
			t.Error("Bytes of no bytes")
		}
	}
}

func TestTextsThatAreCutShort(t *testing.T) {
	for _, b := range [][]byte{{0}, {9}, {1, 0}, {3, 0, 'a', 'b'}, {0, 1, 'a'}, {0xff, 0xff, 'x'}} {
		r := le.Read(b)
		if s := r.Text(); s != "" || r.OK() || r.Left() != len(b) {
			t.Errorf("Text of %v = %q, %d left, %v", b, s, r.Left(), r.OK())
		}
	}
	r := le.Read([]byte{0, 0})
	if s := r.Text(); s != "" || !r.OK() || r.Left() != 0 {
		t.Errorf("an empty text = %q, %d left, %v", s, r.Left(), r.OK())
	}
}

func TestReaderOfNil(t *testing.T) {
	var r *le.Reader
	if n := r.Num(3); n != 0 {
		t.Error("Num:", n)
	}
	if s := r.Text(); s != "" {
		t.Error("Text:", s)
	}
	for _, n := range []int{-1, 0, 1, math.MaxInt} {
		if b := r.Bytes(n); len(b) != 0 {
			t.Error("Bytes:", b)
		}
	}
	if r.Left() != 0 || r.OK() {
		t.Error("Left, OK:", r.Left(), r.OK())
	}
}

func TestReaderKeepsNothingOfItsArgument(t *testing.T) {
	in := spare(4, 0, 'a', 'b', 'c', 'd', 5)
	r := le.Read(in)
	overwrite(in, 0)
	if s, n := r.Text(), r.Num(1); s != "abcd" || n != 5 || !r.OK() {
		t.Errorf("%q %d", s, n)
	}
}

func TestBytesShareNothingWithTheReader(t *testing.T) {
	r := le.Read([]byte{1, 2, 3, 4})
	overwrite(r.Bytes(2), 0x55)
	overwrite(r.Bytes(0), 0x55)
	if b := r.Bytes(2); !bytes.Equal(b, []byte{3, 4}) {
		t.Error(b)
	}
}

// P1.3

func TestGetOfPutIsTheNumber(t *testing.T) {
	for _, n := range numbers() {
		for _, width := range []int{-4, 0, 1, 2, 3, 4, 5, 6, 7, 8, 9} {
			b := le.Put([]byte{3, 1, 4}, width, n)
			want := kept(n, widthOf(width))
			if got, ok := le.Get(b, 3, width); got != want || !ok {
				t.Errorf("width %d: Get of Put of %d = %d %v, not %d", width, n, got, ok, want)
			}
			r := le.Read(b)
			r.Bytes(3)
			if got := r.Num(width); got != want || !r.OK() || r.Left() != 0 {
				t.Errorf("width %d: Num of Put of %d = %d, not %d", width, n, got, want)
			}
			if got := le.Put(b[:3], width, want); !bytes.Equal(got, b) {
				t.Errorf("width %d: Put of %d = %v, of %d %v", width, n, b, want, got)
			}
		}
	}
}

func TestTextsAreReadAgain(t *testing.T) {
	texts := []string{"", "a", "hello", "\x00", "\xff\xfe", "ä€", strings.Repeat("z", 256), strings.Repeat("q", api.MaxText)}
	var b []byte
	for _, s := range texts {
		b = le.PutText(b, s)
	}
	r := le.Read(b)
	for i, s := range texts {
		if got := r.Text(); got != s || !r.OK() {
			t.Errorf("text %d: %d bytes, not %d", i, len(got), len(s))
		}
	}
	if r.Left() != 0 {
		t.Error("bytes are left:", r.Left())
	}
	long := strings.Repeat("w", api.MaxText+1)
	if r := le.Read(le.PutText(nil, long)); r.Text() != long[:api.MaxText] || !r.OK() || r.Left() != 0 {
		t.Error("a text that is too long")
	}
}
