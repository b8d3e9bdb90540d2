package frame_test

import (
	"bytes"
	"fmt"
	"hash/crc32"
	"math"
	"slices"
	"testing"

	"vivarium/api"
	"vivarium/cmd"
	"vivarium/frame"
)

// four: what commands do.
var four = []int{api.DoSpawn, api.DoDespawn, api.DoSet, api.DoRemove}

// others: numbers that are none of the four, near and far.
var others = []int{math.MinInt, -1 << 32, -256, -1, 4, 5, 255, 256, 258, 1 << 32, math.MaxInt}

// chance: numbers that look mixed, the same ones for the same seed.
type chance uint64

// below: the next number from 0 on, below n.
func (c *chance) below(n int) int {
	*c = *c*6364136223846793005 + 1442695040888963407
	return int(uint64(*c)>>33) % n
}

// data: n bytes, none of them 0, no two neighbours the same.
func data(n int) []byte {
	b := make([]byte, n)
	for i := range b {
		b[i] = byte(1 + i%251)
	}
	return b
}

// spare: b's bytes with spare room behind them that has bytes 0xee.
func spare(b []byte) []byte {
	room := append(bytes.Clone(b), bytes.Repeat([]byte{0xee}, 150)...)
	return room[:len(b)]
}

// untouched: does b, made by spare, still have these bytes, and its spare room, too?
func untouched(b, want []byte) bool {
	return bytes.Equal(b, want) && bytes.Equal(b[len(b):len(b)+150], bytes.Repeat([]byte{0xee}, 150))
}

// overwrite: all of b's bytes, its spare room too, are n from now on.
func overwrite(b []byte, n byte) {
	b = b[:cap(b)]
	for i := range b {
		b[i] = n
	}
}

// said: all fields of these commands as a text; nil and empty data are the same.
func said(l []api.Cmd) string {
	s := fmt.Sprintf("%d commands:", len(l))
	for _, x := range l {
		s += fmt.Sprintf(" [do %d local %v index %d gen %d comp %d data %x]", x.Do, x.Local, x.ID.Index, x.ID.Gen, x.Comp, x.Data)
	}
	return s
}

// brief: a text that is not too long to be read.
func brief(v any) string {
	s := fmt.Sprint(v)
	if len(s) > 400 {
		return fmt.Sprintf("%s.. (%d signs)", s[:400], len(s))
	}
	return s
}

// full: a command of that Do of which no other field is zero.
func full(do int, local bool) api.Cmd {
	return api.Cmd{Do: do, Local: local, ID: api.ID{Index: 0x1112131415161718, Gen: 0x2122232425262728}, Comp: 0x3132333435363738, Data: []byte{0x41, 0x42, 0x43}}
}

// bad: commands that may not be, by the error that cmd.Check tells.
func bad() map[api.Errno][]api.Cmd {
	m := map[api.Errno][]api.Cmd{}
	for _, do := range others {
		m[api.ErrArg] = append(m[api.ErrArg], api.Cmd{Do: do}, api.Cmd{Do: do, Data: data(65)})
	}
	for _, do := range four {
		m[api.ErrLong] = append(m[api.ErrLong], api.Cmd{Do: do, Data: data(65)}, api.Cmd{Do: do, Data: data(1 << 16)})
	}
	return m
}

// mixed: n commands that may be, of all kinds, the loose ones among them.
func mixed(c *chance, n int) []api.Cmd {
	l := make([]api.Cmd, n)
	for i := range l {
		l[i] = api.Cmd{Do: c.below(4), Local: c.below(2) == 0, ID: api.ID{Index: c.below(300) - 9, Gen: c.below(300) - 9}, Comp: c.below(40) - 2, Data: data(c.below(65))}
		if c.below(5) == 0 {
			l[i].ID, l[i].Comp, l[i].Data = api.ID{Index: int(*c), Gen: -int(*c)}, int(*c)>>3, nil
		}
	}
	return l
}

// frames: lists of commands that may be, short and long.
func frames() [][]api.Cmd {
	c := chance(5)
	out := [][]api.Cmd{nil, {}, {{}}, make([]api.Cmd, 2), make([]api.Cmd, 63), make([]api.Cmd, 64)}
	var all []api.Cmd
	for _, do := range four {
		for _, local := range []bool{false, true} {
			out = append(out, []api.Cmd{full(do, local)}, []api.Cmd{{Do: do, Local: local}})
			all = append(all, full(do, local))
		}
	}
	var most []api.Cmd
	for range 64 {
		x := full(api.DoSet, false)
		x.Data = data(64)
		most = append(most, x)
	}
	out = append(out, all, most, most[:63])
	for n := range 65 {
		out = append(out, mixed(&c, n))
	}
	return out
}

// plains: Plain of each of l.
func plains(l []api.Cmd) []api.Cmd {
	var out []api.Cmd
	for _, x := range l {
		out = append(out, cmd.Plain(x))
	}
	return out
}

// low: the lowest bytes of n, the lowest first.
func low(width, n int) []byte {
	var b []byte
	for i := range width {
		b = append(b, byte(uint64(n)>>(8*i)))
	}
	return b
}

// row: what is meant by a command's bytes.
func row(x api.Cmd) []byte {
	target := slices.Concat([]byte{0}, low(8, x.ID.Index), low(8, x.ID.Gen))
	if x.Local {
		target = slices.Concat([]byte{1}, low(8, x.ID.Index))
	}
	switch x.Do {
	case api.DoDespawn:
		return slices.Concat([]byte{1}, target)
	case api.DoSet:
		return slices.Concat([]byte{2}, target, low(8, x.Comp), low(2, len(x.Data)), x.Data)
	case api.DoRemove:
		return slices.Concat([]byte{3}, target, low(8, x.Comp))
	}
	return []byte{0}
}

// summed: these bytes, and the sum of them, of the library's own.
func summed(parts ...[]byte) []byte {
	b := slices.Concat(parts...)
	return append(b, low(4, int(crc32.ChecksumIEEE(b)))...)
}

// meant: what is meant by Put.
func meant(l []api.Cmd) []byte {
	b := []byte{byte(len(l))}
	for _, x := range l {
		b = append(b, row(x)...)
	}
	return summed(b)
}

// refused: does Get tell that error, and no commands?
func refused(t *testing.T, b []byte, want api.Errno) {
	t.Helper()
	if l, e := frame.Get(b); e != want || len(l) != 0 {
		t.Errorf("Get(%s) = %s, %d, not %d", brief(b), brief(said(l)), e, want)
	}
}

// taken: does Get tell these commands?
func taken(t *testing.T, b []byte, want []api.Cmd) {
	t.Helper()
	if l, e := frame.Get(b); e != api.OK || said(l) != said(want) {
		t.Errorf("Get(%s) = %s, %d, not %s", brief(b), brief(said(l)), e, brief(said(want)))
	}
}

// P14.1

// tells: what Check tells of l; and Put and Size what follows from that.
func tells(t *testing.T, l []api.Cmd, want api.Errno) {
	t.Helper()
	if e := frame.Check(l); e != want {
		t.Errorf("Check of %s = %d, not %d", brief(said(l)), e, want)
	}
	b, e := frame.Put(l)
	n := frame.Size(l)
	if e != want {
		t.Errorf("Put of %s tells %d, not %d", brief(said(l)), e, want)
	}
	if want != api.OK && (len(b) != 0 || n != 0) {
		t.Errorf("of %s, which may not be, there are %d bytes, and the size %d", brief(said(l)), len(b), n)
	}
	if want == api.OK && (!bytes.Equal(b, meant(l)) || n != len(b)) {
		t.Errorf("Put of %s = %s, not %s; Size = %d", brief(said(l)), brief(b), brief(meant(l)), n)
	}
}

func TestCheckOfHowManyThereAre(t *testing.T) {
	for n := range 200 {
		want := api.OK
		if n > 64 {
			want = api.ErrLong
		}
		tells(t, make([]api.Cmd, n), want)
	}
	for _, n := range []int{255, 256, 257, 256 + 64, 1 << 16, 1<<16 + 1, 1 << 20} {
		tells(t, make([]api.Cmd, n), api.ErrLong)
	}
	tells(t, nil, api.OK)
	tells(t, []api.Cmd{}, api.OK)
	tells(t, make([]api.Cmd, 100)[:64], api.OK) // the spare room doesn't count
	tells(t, make([]api.Cmd, 100)[:65], api.ErrLong)
}

func TestCheckOfOneThatMayNotBe(t *testing.T) {
	for want, l := range bad() {
		for _, x := range l {
			for _, n := range []int{1, 2, 3, 5, 63, 64} {
				for _, at := range []int{0, 1, n / 2, n - 2, n - 1} {
					if at < 0 || at >= n {
						continue
					}
					c := chance(n)
					all := mixed(&c, n)
					all[at] = x
					tells(t, all, want)
				}
			}
		}
	}
}

func TestCheckTellsTheFirstOfTwo(t *testing.T) {
	arg, long := api.Cmd{Do: 4}, api.Cmd{Do: api.DoSpawn, Data: data(65)}
	for _, n := range []int{2, 3, 64} {
		for i := range n {
			for j := range n {
				if i == j {
					continue
				}
				l := make([]api.Cmd, n)
				l[i], l[j] = arg, long
				want := api.ErrArg
				if j < i {
					want = api.ErrLong
				}
				tells(t, l, want)
			}
		}
	}
}

func TestCheckOfTooManyAndOneThatMayNotBe(t *testing.T) {
	for _, n := range []int{65, 66, 256, 300} {
		for _, at := range []int{0, 1, 63, 64, n - 1} {
			l := make([]api.Cmd, n)
			l[at].Do = 4
			tells(t, l, api.ErrLong)
		}
	}
	l := make([]api.Cmd, 64)
	l[63].Do = 4
	tells(t, l, api.ErrArg)
}

func TestCheckLooksAtNothingElse(t *testing.T) {
	for _, n := range []int{math.MinInt, -1, 0, 64, 65, math.MaxInt} {
		for _, local := range []bool{false, true} {
			var l []api.Cmd
			for _, do := range four {
				l = append(l, api.Cmd{Do: do, Local: local, ID: api.ID{Index: n, Gen: n}, Comp: n, Data: data(64)})
			}
			tells(t, l, api.OK)
		}
	}
}

func TestPutByteByByte(t *testing.T) {
	id := api.ID{Index: 258, Gen: -2}
	for _, c := range []struct {
		l    []api.Cmd
		want []byte // ahead of the sum
	}{
		{nil, []byte{0}},
		{[]api.Cmd{}, []byte{0}},
		{[]api.Cmd{{}}, []byte{1, 0}},
		{[]api.Cmd{{}, {}, {}}, []byte{3, 0, 0, 0}},
		{[]api.Cmd{full(api.DoSpawn, true)}, []byte{1, 0}},
		{[]api.Cmd{{Do: 1, Local: true, ID: api.ID{Index: 2, Gen: 9}}}, []byte{1, 1, 1, 2, 0, 0, 0, 0, 0, 0, 0}},
		{[]api.Cmd{{Do: 1, ID: id, Comp: 7}}, []byte{1, 1, 0, 2, 1, 0, 0, 0, 0, 0, 0, 254, 255, 255, 255, 255, 255, 255, 255}},
		{[]api.Cmd{{Do: 2, Local: true, ID: id, Comp: 3, Data: []byte{5, 0}}}, []byte{1, 2, 1, 2, 1, 0, 0, 0, 0, 0, 0, 3, 0, 0, 0, 0, 0, 0, 0, 2, 0, 5, 0}},
		{[]api.Cmd{{Do: 3, Local: true, ID: id, Comp: -1, Data: []byte{5}}}, []byte{1, 3, 1, 2, 1, 0, 0, 0, 0, 0, 0, 255, 255, 255, 255, 255, 255, 255, 255}},
		{[]api.Cmd{{Do: 1, Local: true, ID: api.ID{Index: 1}}, {}, {Do: 1, Local: true, ID: api.ID{Index: 2}}}, []byte{3, 1, 1, 1, 0, 0, 0, 0, 0, 0, 0, 0, 1, 1, 2, 0, 0, 0, 0, 0, 0, 0}},
		{make([]api.Cmd, 64), append([]byte{64}, make([]byte, 64)...)},
	} {
		b, e := frame.Put(c.l)
		if e != api.OK || !bytes.Equal(b, summed(c.want)) || frame.Size(c.l) != len(c.want)+4 {
			t.Errorf("Put of %s = %v, %d", said(c.l), b, e)
		}
	}
}

func TestPutTellsTheSumLowestByteFirst(t *testing.T) {
	// Of the byte 0 the sum is 0xd202ef8d, of the bytes 1, 0 it is 0x58c223be: known from elsewhere.
	if b, _ := frame.Put(nil); !bytes.Equal(b, []byte{0, 0x8d, 0xef, 0x02, 0xd2}) {
		t.Errorf("Put of no commands = %x", b)
	}
	if b, _ := frame.Put(make([]api.Cmd, 1)); !bytes.Equal(b, []byte{1, 0, 0xbe, 0x23, 0xc2, 0x58}) {
		t.Errorf("Put of a spawn = %x", b)
	}
}

func TestPutAndSizeOfManyFrames(t *testing.T) {
	for _, l := range frames() {
		tells(t, l, api.OK)
		if a, b := frame.Size(l), frame.Size(plains(l)); a != b {
			t.Errorf("Size of %s = %d, of their Plain %d", brief(said(l)), a, b)
		}
	}
	most := slices.Repeat([]api.Cmd{{Do: api.DoSet, Data: data(64)}}, 64)
	if n := frame.Size(most); n != 1+64*92+4 {
		t.Errorf("the greatest frame has %d bytes", n)
	}
}

// P14.2

func TestGetOfFewerThanFive(t *testing.T) {
	for n := range 5 {
		for _, b := range [][]byte{make([]byte, n), bytes.Repeat([]byte{1}, n), bytes.Repeat([]byte{255}, n), meant(nil)[:n], spare(make([]byte, n)), meant(nil)[5-n:]} {
			refused(t, b, api.ErrShort)
		}
	}
	refused(t, nil, api.ErrShort)
	refused(t, summed(), api.ErrShort) // the sum of nothing is right, but nothing is ahead of it
	taken(t, meant(nil), nil)
	for _, b := range [][]byte{make([]byte, 5), data(5), {255, 255, 255, 255, 255}, {65, 0, 0, 0, 0}} {
		refused(t, b, api.ErrForm)
	}
}

func TestGetOfEachFirstByteAlone(t *testing.T) {
	for n := range 256 {
		b := summed([]byte{byte(n)})
		switch {
		case n == 0:
			taken(t, b, nil)
		case n <= 64:
			refused(t, b, api.ErrShort)
		default:
			refused(t, b, api.ErrLong)
		}
	}
}

func TestGetOfBytesThatEndWithin(t *testing.T) {
	for _, l := range frames() {
		if len(l) > 20 {
			continue
		}
		whole := meant(l)
		for n := range whole {
			want := api.ErrForm
			if n < 5 {
				want = api.ErrShort
			}
			refused(t, whole[:n], want) // the rest stands in the spare room
			refused(t, bytes.Clone(whole[:n]), want)
		}
		for _, more := range [][]byte{{0}, {255}, whole, data(9)} {
			refused(t, slices.Concat(whole, more), api.ErrForm)
		}
		taken(t, whole, plains(l))
		taken(t, spare(whole), plains(l))
	}
}

func TestGetOfEachBitTurned(t *testing.T) {
	for _, l := range frames() {
		if len(l) > 12 {
			continue
		}
		whole := meant(l)
		for i := range 8 * len(whole) {
			b := bytes.Clone(whole)
			b[i/8] ^= 1 << (i % 8)
			refused(t, b, api.ErrForm)
		}
	}
}

func TestGetOfAnotherSum(t *testing.T) {
	for _, l := range frames() {
		whole := meant(l)
		body, tail := whole[:len(whole)-4], whole[len(whole)-4:]
		back := bytes.Clone(tail)
		slices.Reverse(back)
		for _, b := range [][]byte{
			slices.Concat(body, []byte{0, 0, 0, 0}),
			slices.Concat(body, []byte{255, 255, 255, 255}),
			slices.Concat(body, back),
			slices.Concat(tail, body),
			slices.Concat(body, low(4, int(crc32.ChecksumIEEE(body[1:])))),
			slices.Concat(body, low(4, int(crc32.ChecksumIEEE(whole)))),
			slices.Concat(body, low(4, int(^crc32.ChecksumIEEE(body)))),
			slices.Concat(body, low(4, int(crc32.ChecksumIEEE(body))+1)),
			slices.Concat(body, low(4, int(crc32.Checksum(body, crc32.MakeTable(crc32.Castagnoli))))),
		} {
			refused(t, b, api.ErrForm)
		}
	}
}

func TestGetOfMoreOrFewerThanThereAre(t *testing.T) {
	for _, l := range frames() {
		var body []byte
		for _, x := range l {
			body = append(body, row(x)...)
		}
		for n := range 256 {
			b := summed([]byte{byte(n)}, body)
			switch {
			case n > 64:
				refused(t, b, api.ErrLong)
			case n > len(l):
				refused(t, b, api.ErrShort)
			case n < len(l):
				refused(t, b, api.ErrForm)
			default:
				taken(t, b, plains(l))
			}
		}
	}
}

func TestGetOfBytesLeft(t *testing.T) {
	for _, l := range frames() {
		whole := meant(l)
		body := whole[:len(whole)-4]
		for _, more := range [][]byte{{0}, {1}, {4}, {255}, {0, 0}, data(4), data(5), row(full(api.DoSet, true)), whole, make([]byte, 1000)} {
			refused(t, summed(body, more), api.ErrForm)
		}
	}
}

// faults: bytes of which cmd.Get tells an error, by it.
func faults() map[api.Errno][][]byte {
	m := map[api.Errno][][]byte{}
	for _, do := range four {
		for _, local := range []bool{false, true} {
			whole := row(full(do, local))
			for n := range whole {
				m[api.ErrShort] = append(m[api.ErrShort], whole[:n])
			}
			if do != api.DoSpawn {
				for _, n := range []byte{2, 3, 255} {
					b := bytes.Clone(whole)
					b[1] = n
					m[api.ErrForm] = append(m[api.ErrForm], b, b[:2], b[:5])
				}
			}
		}
	}
	for _, n := range []byte{4, 5, 64, 254, 255} {
		m[api.ErrForm] = append(m[api.ErrForm], []byte{n}, append([]byte{n}, make([]byte, 100)...))
	}
	for _, n := range []int{65, 66, 256, 1 << 15, 1<<16 - 1} {
		b := row(api.Cmd{Do: api.DoSet, Local: n%2 == 0, Data: data(n)})
		for _, there := range []int{0, 1, 65} {
			m[api.ErrLong] = append(m[api.ErrLong], b[:len(b)-n+there])
		}
	}
	return m
}

func TestGetOfWhatCmdGetRefuses(t *testing.T) {
	for want, l := range faults() {
		for _, b := range l {
			if _, _, e := cmd.Get(b, 0); e != want {
				t.Fatalf("cmd.Get(%v) tells %d, not %d", b, e, want)
			}
			for _, ahead := range [][]api.Cmd{nil, {{}}, {full(2, false)}, make([]api.Cmd, 63), {full(1, true), full(2, true), full(3, false)}} {
				var rows []byte
				for _, x := range ahead {
					rows = append(rows, row(x)...)
				}
				for _, behind := range []int{0, min(1, 63-len(ahead)), 63 - len(ahead)} { // so many more are told of, and not there
					many := byte(len(ahead) + 1 + behind)
					refused(t, summed([]byte{many}, rows, b), want)
				}
			}
		}
	}
}

func TestGetTellsTheFirstFaultOfSeveral(t *testing.T) {
	short, form, long := []byte{1, 1, 5}, []byte{4}, row(api.Cmd{Do: api.DoSet, Data: data(65)})
	spawn := []byte{0}
	for _, c := range []struct {
		many   byte
		bodies [][]byte
		want   api.Errno
	}{
		{2, [][]byte{form, long}, api.ErrForm},
		{2, [][]byte{long, form}, api.ErrLong},
		{2, [][]byte{form, short}, api.ErrForm},
		{2, [][]byte{long, short}, api.ErrLong},
		{4, [][]byte{spawn, spawn, long, form}, api.ErrLong},
		{4, [][]byte{spawn, form, spawn, long}, api.ErrForm},
		{3, [][]byte{spawn, short}, api.ErrShort},
		{1, [][]byte{form, spawn}, api.ErrForm},
		{1, [][]byte{long, spawn}, api.ErrLong},
		{1, [][]byte{spawn, long}, api.ErrForm}, // not looked at: these are bytes that are left
		{1, [][]byte{spawn, short}, api.ErrForm},
		{65, [][]byte{form}, api.ErrLong},
		{65, [][]byte{short}, api.ErrLong},
		{255, [][]byte{form, spawn}, api.ErrLong},
		{64, [][]byte{form}, api.ErrForm},
	} {
		b := summed([]byte{c.many}, slices.Concat(c.bodies...))
		refused(t, b, c.want)
		for i := len(b) - 4; i < len(b); i++ { // of another sum nothing else is told
			other := bytes.Clone(b)
			other[i]++
			refused(t, other, api.ErrForm)
		}
	}
	for _, n := range []byte{0, 1, 64, 65, 255} { // too short a frame is told ahead of all else
		for long := 1; long < 5; long++ {
			refused(t, append([]byte{n}, make([]byte, long-1)...), api.ErrShort)
		}
	}
}

func TestGetDoesNotReadTheSum(t *testing.T) {
	for _, do := range four {
		for _, local := range []bool{false, true} {
			for _, ahead := range [][]byte{nil, {0}, {0, 0, 0}} {
				whole := row(full(do, local))
				for cut := 1; cut <= min(4, len(whole)); cut++ {
					b := summed([]byte{byte(len(ahead) + 1)}, ahead, whole[:len(whole)-cut])
					refused(t, b, api.ErrShort)
					refused(t, spare(b), api.ErrShort)
				}
			}
		}
	}
	// Its sum begins with a byte 0, as a spawn does.
	for n := range 1 << 16 {
		x := api.Cmd{Do: api.DoDespawn, Local: true, ID: api.ID{Index: n}}
		b := summed([]byte{2}, row(x))
		if b[len(b)-4] == 0 {
			refused(t, b, api.ErrShort)
		}
	}
}

func TestGetOfMixedBytes(t *testing.T) {
	c := chance(3)
	found := map[api.Errno]int{}
	for range 40000 {
		b := make([]byte, 1+c.below(60))
		for i := range b {
			b[i] = byte(c.below([]int{2, 3, 5}[c.below(3)]))
		}
		b[0] = byte(c.below(4))
		if c.below(40) == 0 {
			b[0] = byte(c.below(256))
		}
		want, at := api.OK, 1
		var l []api.Cmd
		if b[0] > 64 {
			want = api.ErrLong
		}
		for range b[0] {
			if want != api.OK {
				break
			}
			var x api.Cmd
			if x, at, want = cmd.Get(b, at); want == api.OK {
				l = append(l, x)
			}
		}
		if want == api.OK && at != len(b) {
			want = api.ErrForm
		}
		if found[want]++; want == api.OK {
			taken(t, summed(b), l)
		} else {
			refused(t, summed(b), want)
		}
	}
	for _, e := range []api.Errno{api.OK, api.ErrForm, api.ErrLong, api.ErrShort} {
		if found[e] < 20 {
			t.Errorf("only %d times %d was told", found[e], e)
		}
	}
}

// P14.3

func TestGetOfPutIsPlain(t *testing.T) {
	for _, l := range frames() {
		b, _ := frame.Put(l)
		x, e := frame.Get(b)
		if e != api.OK || said(x) != said(plains(l)) {
			t.Errorf("Get of Put of %s = %s, %d", brief(said(l)), brief(said(x)), e)
		}
	}
}

func TestGetTellsWhatPlainLeavesOutAsZero(t *testing.T) {
	l := []api.Cmd{full(0, true), full(1, true), full(1, false), full(2, true), full(3, false), full(3, true)}
	bare := api.ID{Index: l[0].ID.Index}
	want := []api.Cmd{
		{},
		{Do: 1, Local: true, ID: bare},
		{Do: 1, ID: l[2].ID},
		{Do: 2, Local: true, ID: bare, Comp: l[3].Comp, Data: l[3].Data},
		{Do: 3, ID: l[4].ID, Comp: l[4].Comp},
		{Do: 3, Local: true, ID: bare, Comp: l[5].Comp},
	}
	b, _ := frame.Put(l)
	taken(t, b, want)
}

func TestBytesThatAreGotAreThoseThatArePut(t *testing.T) {
	c := chance(11)
	many := 0
	for range 40000 {
		b := make([]byte, 1+c.below(40))
		for i := range b {
			b[i] = byte(c.below([]int{2, 4}[c.below(2)]))
		}
		b = summed(b)
		l, e := frame.Get(b)
		if e != api.OK {
			continue
		}
		many++
		if again, e := frame.Put(l); e != api.OK || !bytes.Equal(again, b) || frame.Size(l) != len(b) || frame.Check(l) != api.OK {
			t.Errorf("Put of what is got of %v = %v, %d", b, again, e)
		}
	}
	if many < 100 {
		t.Errorf("only %d of them were frames", many)
	}
}

// What is handed in, and new memory.

// roomy: commands of all kinds, each with spare room behind its data, and spare room behind the list.
func roomy() []api.Cmd {
	var l []api.Cmd
	for _, do := range four {
		for _, local := range []bool{false, true} {
			x := full(do, local)
			x.Data = spare(data(5))
			l = append(l, x)
		}
	}
	return append(l, full(4, true), full(5, true))[:len(l)]
}

func TestWhatIsHandedInStays(t *testing.T) {
	for _, do := range []int{api.DoSet, 9} { // one that may be, and one that may not
		l := roomy()
		l[3].Do = do
		before := said(l)
		frame.Check(l)
		frame.Put(l)
		frame.Size(l)
		if said(l) != before || said(l[:len(l)+2][len(l):]) != said([]api.Cmd{full(4, true), full(5, true)}) {
			t.Errorf("%s, of %s", said(l), before)
		}
		for _, x := range l {
			if !untouched(x.Data, data(5)) {
				t.Errorf("data of %s were changed", said([]api.Cmd{x}))
			}
		}
	}
	for _, b := range [][]byte{meant(roomy()), meant(nil), summed([]byte{1}), summed([]byte{70}), summed([]byte{1, 4}), summed([]byte{0, 0}), data(20), data(3)} {
		in := spare(b)
		frame.Get(in)
		if !untouched(in, b) {
			t.Errorf("Get changed %v", b)
		}
	}
}

func TestPutIsNewMemory(t *testing.T) {
	l := roomy()
	b, _ := frame.Put(l)
	before := bytes.Clone(b)
	for _, x := range l {
		overwrite(x.Data, 0x77)
	}
	if !bytes.Equal(b, before) {
		t.Error("Put's answer hangs on the data that were handed in")
	}
	l = roomy()
	b, _ = frame.Put(l)
	overwrite(b, 0x55)
	for _, x := range l {
		if !untouched(x.Data, data(5)) {
			t.Error("Put hands out memory of its argument")
		}
	}
	if again, _ := frame.Put(l); !bytes.Equal(again, before) {
		t.Error("Put hands out what later answers hang on")
	}
}

func TestGetIsNewMemory(t *testing.T) {
	l := roomy()
	want := said(plains(l))
	in := spare(meant(l))
	x, _ := frame.Get(in)
	overwrite(in, 0x77)
	if said(x) != want {
		t.Error("Get's answer hangs on the bytes that were handed in")
	}
	in = spare(meant(l))
	x, _ = frame.Get(in)
	for i, one := range x {
		overwrite(one.Data, byte(i))
	}
	if !untouched(in, meant(l)) {
		t.Error("Get hands out memory of its argument")
	}
	if y, _ := frame.Get(in); said(y) != want {
		t.Error("Get hands out what later answers hang on")
	}
}

func TestDataOfOneAnswerAreApart(t *testing.T) {
	var l []api.Cmd
	for n := range 64 {
		l = append(l, api.Cmd{Do: api.DoSet, Comp: n, Data: data(n % 9)})
	}
	x, _ := frame.Get(meant(l))
	for i := range x {
		overwrite(append(x[i].Data, data(100)...), 0x55) // behind its end, too
		overwrite(x[i].Data, 0x55)
		for j := i + 1; j < len(x); j++ {
			if !bytes.Equal(x[j].Data, l[j].Data) {
				t.Fatalf("data of command %d changed with those of %d", j, i)
			}
		}
	}
	for i := range x {
		if !bytes.Equal(x[i].Data, bytes.Repeat([]byte{0x55}, i%9)) {
			t.Fatalf("data of command %d changed with later ones: %v", i, x[i].Data)
		}
	}
}

func TestAnswersHangOnArgumentsAlone(t *testing.T) {
	for _, l := range frames() {
		a, _ := frame.Put(l)
		b, _ := frame.Put(slices.Clone(l))
		x, _ := frame.Get(a)
		y, _ := frame.Get(spare(b))
		if !bytes.Equal(a, b) || said(x) != said(y) || frame.Size(l) != frame.Size(slices.Clone(l)) {
			t.Errorf("%s: two answers", brief(said(l)))
		}
	}
}
