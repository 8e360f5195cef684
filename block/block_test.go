package block

import (
	"bytes"
	"encoding/binary"
	"hash/crc32"
	"math"
	"math/rand"
	"slices"
	"sort"
	"strings"
	"testing"

	"buttery/api"
)

func text(n int) string { return strings.Repeat("x", n) }

func key(k string, seq uint64, kind int) api.IKey {
	return api.IKey{Key: []byte(k), Seq: seq, Kind: kind}
}

func put(k string, seq uint64, v string) api.Entry {
	return api.Entry{Key: key(k, seq, api.Put), Value: []byte(v)}
}

func del(k string, seq uint64) api.Entry { return api.Entry{Key: key(k, seq, api.Delete)} }

func sameEntry(a, b api.Entry) bool {
	return bytes.Equal(a.Key.Key, b.Key.Key) && a.Key.Seq == b.Key.Seq && a.Key.Kind == b.Key.Kind && bytes.Equal(a.Value, b.Value)
}

func same(a, b []api.Entry) bool { return slices.EqualFunc(a, b, sameEntry) }

func cat(l ...[]byte) []byte { return slices.Concat(l...) }

// encoded is a key's bytes by the words of chapter 4.
func encoded(k api.IKey) []byte {
	return binary.LittleEndian.AppendUint64(bytes.Clone(k.Key), k.Seq*256+uint64(k.Kind))
}

// order compares keys by the words of chapter 4.
func order(a, b api.IKey) int {
	switch c := bytes.Compare(a.Key, b.Key); {
	case c != 0:
		return c
	case a.Seq != b.Seq && a.Seq > b.Seq || a.Seq == b.Seq && a.Kind > b.Kind:
		return -1
	case a.Seq == b.Seq && a.Kind == b.Kind:
		return 0
	}
	return 1
}

// summed is bytes with their checksum behind them.
func summed(b []byte) []byte {
	x := crc32.Checksum(b, crc32.MakeTable(crc32.Castagnoli))
	return binary.LittleEndian.AppendUint32(bytes.Clone(b), (x>>15|x<<17)+0xa282ead8)
}

func valid(e api.Entry) bool {
	known := e.Key.Kind == api.Delete || e.Key.Kind == api.Put && len(e.Value) <= 4096
	return known && len(e.Key.Key) >= 1 && len(e.Key.Key) <= 256 && e.Key.Seq < 1<<56 && (e.Key.Kind == api.Put || len(e.Value) == 0)
}

// tail is the restart points and their number.
func tail(restarts ...int) []byte {
	var out []byte
	for _, at := range append(restarts, len(restarts)) {
		out = binary.LittleEndian.AppendUint32(out, uint32(at))
	}
	return out
}

// chapterBuild follows the chapter's words; it takes valid entries only.
func chapterBuild(l []api.Entry, every int) ([]byte, []int) {
	if every < 1 {
		every = 1
	}
	if every > 100 {
		every = 100
	}
	var out []byte
	var restarts []int
	for i, e := range l {
		k, n := encoded(e.Key), 0
		if i%every == 0 {
			restarts = append(restarts, len(out))
		} else {
			for before := encoded(l[i-1].Key); n < len(k) && n < len(before) && k[n] == before[n]; n++ {
			}
		}
		for _, x := range []int{n, len(k) - n, len(e.Value)} {
			out = binary.AppendUvarint(out, uint64(x))
		}
		out = append(append(out, k[n:]...), e.Value...)
	}
	return summed(append(out, tail(restarts...)...)), restarts
}

func chapterError(l []api.Entry) api.Errno {
	for _, e := range l {
		if !valid(e) {
			return api.ErrArg
		}
	}
	if !slices.IsSortedFunc(l, func(a, b api.Entry) int {
		if order(a.Key, b.Key) == 0 {
			return -1 // equal keys are not strictly ascending
		}
		return order(a.Key, b.Key)
	}) {
		return api.ErrOrder
	}
	if len(l) > 10000 {
		return api.ErrLong
	}
	return api.OK
}

// chapterAll holds a block against each restart interval, without building one; it
// tells the smallest that fits.
func chapterAll(b []byte) ([]api.Entry, []int, int, api.Errno) {
	if len(b) < 8 {
		return nil, nil, 0, api.ErrShort
	}
	body := b[:len(b)-4]
	if !bytes.Equal(summed(body), b) {
		return nil, nil, 0, api.ErrSum
	}
	// Each entry but a first one has at least 4 bytes: greater intervals make no difference.
	for every := 1; every <= min(100, 2+len(body)/4); every++ {
		if l, restarts, ok := chapterRead(body, every); ok {
			return l, restarts, every, api.OK
		}
	}
	return nil, nil, 0, api.ErrSyntax
}

func chapterRead(body []byte, every int) ([]api.Entry, []int, bool) {
	count := int(binary.LittleEndian.Uint32(body[len(body)-4:]))
	stop := len(body) - 4 - 4*count
	if stop < 0 {
		return nil, nil, false
	}
	var l []api.Entry
	var restarts []int
	var before []byte
	for at := 0; at < stop; {
		start := at
		var x [3]int
		for i := range x {
			n, size := binary.Uvarint(body[at:stop])
			if size < 1 || size > 1 && body[at+size-1] == 0 || n > uint64(stop) {
				return nil, nil, false
			}
			x[i], at = int(n), at+size
		}
		if x[1]+x[2] > stop-at || x[0] > len(before) {
			return nil, nil, false
		}
		if len(l)%every == 0 {
			restarts = append(restarts, start)
			if x[0] != 0 {
				return nil, nil, false
			}
		}
		k := cat(before[:x[0]], body[at:at+x[1]])
		v := body[at+x[1] : at+x[1]+x[2]]
		if len(k) < 9 || len(l)%every != 0 && x[0] < len(k) && x[0] < len(before) && k[x[0]] == before[x[0]] {
			return nil, nil, false
		}
		n := len(k) - 8
		number := binary.LittleEndian.Uint64(k[n:])
		l = append(l, api.Entry{Key: api.IKey{Key: k[:n], Seq: number >> 8, Kind: int(number & 255)}, Value: v})
		at, before = at+x[1]+x[2], k
	}
	right := bytes.Equal(body[stop:], tail(restarts...)) && chapterError(l) == api.OK
	return l, restarts, right
}

// hold holds what is asked of a block against the chapter, and returns All's error.
func hold(t *testing.T, b []byte, keys ...api.IKey) api.Errno {
	t.Helper()
	kept := bytes.Clone(b)
	want, points, every, errno := chapterAll(b)
	if got, e := All(b); e != errno || !same(got, want) {
		t.Fatalf("All of %x: %v, %d, want %v, %d", b, got, e, want, errno)
	}
	if got, n, e := Open(b); e != errno || n != every || !same(got, want) {
		t.Fatalf("Open of %x: %v, %d, %d, want %v, %d, %d", b, got, n, e, want, every, errno)
	}
	if got, e := Restarts(b); e != errno || !slices.Equal(got, points) {
		t.Fatalf("Restarts of %x: %v, %d, want %v, %d", b, got, e, points, errno)
	}
	for _, k := range append(keys, api.IKey{}) {
		i := slices.IndexFunc(want, func(e api.Entry) bool { return order(e.Key, k) >= 0 })
		var first api.Entry
		if i >= 0 {
			first = want[i]
		}
		if got, ok, e := Seek(b, k); e != errno || ok != (i >= 0) || !sameEntry(got, first) {
			t.Fatalf("Seek of %q, %d, %d: %v, %t, %d, want %v, %t, %d", k.Key, k.Seq, k.Kind, got, ok, e, first, i >= 0, errno)
		}
	}
	if !bytes.Equal(b, kept) {
		t.Fatalf("a block was changed: %x, was %x", b, kept)
	}
	return errno
}

func build(t *testing.T, l []api.Entry, every int) []byte {
	t.Helper()
	b, e := Build(l, every)
	if want, _ := chapterBuild(l, every); e != api.OK || !bytes.Equal(b, want) {
		t.Fatalf("Build of %d by %d: %x, %d, want %x", len(l), every, b, e, want)
	}
	if e := Check(l); e != api.OK {
		t.Fatalf("Check of %d: %d", len(l), e)
	}
	return b
}

// rising is n entries in order; their keys have different lengths in common.
func rising(n int) []api.Entry {
	var l []api.Entry
	for i := range n {
		k := string([]byte{byte(i >> 10), byte(i >> 4), byte(i >> 2)})
		switch i % 4 {
		case 0:
			l = append(l, put(k, 300, text(i%140)))
		case 1:
			l = append(l, del(k, 300))
		case 2:
			l = append(l, put(k, 299, "v"))
		default:
			l = append(l, put(k, 2, ""))
		}
	}
	return l
}

var intervals = []int{math.MinInt, -1, 0, 1, 2, 3, 4, 5, 7, 10, 50, 98, 99, 100, 101, 102, 200, 1 << 32, 1<<32 + 2, math.MaxInt}

func TestP1101Examples(t *testing.T) {
	b, e := Build(nil, 5)
	if e != api.OK || !bytes.Equal(b, summed([]byte{0, 0, 0, 0})) || len(b) != 8 {
		t.Errorf("no entries: %x, %d", b, e)
	}
	l := []api.Entry{put("ab", 3, "v"), put("ab", 2, ""), del("b", 9), put("bc", 1, text(300))}
	b, e = Build(l, 3)
	want := summed(cat(
		[]byte{0, 10, 1, 'a', 'b', 1, 3, 0, 0, 0, 0, 0, 0, 'v'},
		[]byte{3, 7, 0, 2, 0, 0, 0, 0, 0, 0},
		[]byte{0, 9, 0, 'b', 0, 9, 0, 0, 0, 0, 0, 0},
		[]byte{0, 10, 172, 2, 'b', 'c', 1, 1, 0, 0, 0, 0, 0, 0}, []byte(text(300)),
		[]byte{0, 0, 0, 0, 36, 0, 0, 0, 2, 0, 0, 0},
	))
	if e != api.OK || !bytes.Equal(b, want) {
		t.Errorf("four entries: %x, %d, want %x", b, e, want)
	}
}

func TestP1101EveryCountAndInterval(t *testing.T) {
	all := rising(420)
	for _, every := range intervals {
		for _, n := range []int{0, 1, 2, 3, 4, 5, 6, 7, 8, 9, 10, 11, 49, 50, 51, 98, 99, 100, 101, 102, 198, 199, 200, 201, 202, 299, 300, 301, 420} {
			build(t, all[:n], every)
		}
	}
}

func TestP1101CommonPrefixOfAllLengths(t *testing.T) {
	long := text(256)
	for n := range 256 {
		build(t, []api.Entry{put(long[:n]+"a", 7, ""), put(long[:n]+"b", 7, "")}, 2)
		build(t, []api.Entry{put(long[:n]+"a", 7, ""), put(long[:n]+"b", 7, "")}, 1)
		build(t, []api.Entry{put(long, 5, ""), put(long, uint64(n)%5, "")}, 2)
		build(t, []api.Entry{put(long[:n]+"w", 256, text(n)), put(long, 256, text(256-n))}, 2)
	}
	// All bytes of the first key are a prefix of the second one's.
	a := put("a", 3, "v")
	b := build(t, []api.Entry{a, put(string(encoded(a.Key)), 3, ""), put(string(encoded(a.Key))+"b", 3, "")}, 8)
	if b[13] != 9 {
		t.Errorf("the common prefix: %d bytes, want 9", b[12])
	}
}

func TestP1101Limits(t *testing.T) {
	for _, e := range []api.Entry{
		put(text(1), 0, ""), put(text(256), api.MaxSeq, text(4096)), del(text(256), api.MaxSeq), del("\x00", 0), put("a", 1, text(4095)), put("a", 1, text(127)), put("a", 1, text(128)),
	} {
		hold(t, build(t, []api.Entry{e}, 1))
		hold(t, build(t, []api.Entry{put("\x00", 1, ""), e}, 16))
	}
}

// invalid is one entry for each thing that can be wrong.
func invalid() []api.Entry {
	return []api.Entry{
		{}, put("", 1, ""), put(text(257), 1, ""), del("", 1), del(text(257), 1),
		put("a", api.MaxSeq+1, ""), put("a", math.MaxUint64, ""), del("a", 1<<56),
		put("a", 1, text(4097)), put("a", 1, text(1<<17)),
		{Key: key("a", 1, api.Delete), Value: []byte("v")}, {Key: key("a", 1, api.Delete), Value: []byte(text(4097))},
		{Key: key("a", 1, 2)}, {Key: key("a", 1, -1)}, {Key: key("a", 1, 256)}, {Key: key("a", 1, 257)}, {Key: key("a", 1, math.MinInt)}, {Key: key("a", 1, math.MaxInt)},
	}
}

func TestP1101Errors(t *testing.T) {
	a, b, c := put("a", 2, "v"), put("b", 2, ""), del("c", 2)
	refused := func(l []api.Entry, want api.Errno) {
		t.Helper()
		for _, every := range intervals {
			if got, e := Build(l, every); e != want || len(got) != 0 {
				t.Errorf("Build of %d by %d: %x, %d, want %d", len(l), every, got, e, want)
			}
		}
		if e := Check(l); e != want {
			t.Errorf("Check of %d: %d, want %d", len(l), e, want)
		}
	}
	for _, e := range invalid() {
		refused([]api.Entry{e}, api.ErrArg)
		refused([]api.Entry{e, a, b}, api.ErrArg)
		refused([]api.Entry{a, b, e}, api.ErrArg)
		// An order that is wrong ahead of it makes no difference.
		refused([]api.Entry{c, b, a, e}, api.ErrArg)
		refused([]api.Entry{c, c, e}, api.ErrArg)
	}
	for _, l := range [][]api.Entry{
		{b, a}, {a, a}, {a, b, b}, {a, c, b}, {b, a, c}, {a, b, c, a}, {put("a", 1, ""), put("a", 2, "")},
		{del("a", 2), put("a", 2, "")}, {put("ab", 1, ""), put("a", 1, "")}, {a, put("a", 2, "other")},
	} {
		refused(l, api.ErrOrder)
	}
	build(t, []api.Entry{put("a", 2, ""), del("a", 2)}, 3)
	build(t, []api.Entry{put("a", 2, ""), put("a", 1, ""), put("a\x00", 9, "")}, 3)
}

func TestP1101MostEntries(t *testing.T) {
	l := rising(10002)
	for _, every := range []int{1, 3, 100} {
		b := build(t, l[:10000], every)
		if got, n, e := Open(b); e != api.OK || n != every || !same(got, l[:10000]) {
			t.Errorf("Open of 10000 by %d: %d entries by %d, %d", every, len(got), n, e)
		}
	}
	for _, n := range []int{10001, 10002} {
		if b, e := Build(l[:n], 7); e != api.ErrLong || len(b) != 0 || Check(l[:n]) != api.ErrLong {
			t.Errorf("Build of %d: %d bytes, %d, %d", n, len(b), e, Check(l[:n]))
		}
		// What would be the encoding of so many is none.
		b, _ := chapterBuild(l[:n], 7)
		if got, e := All(b); e != api.ErrSyntax || len(got) != 0 {
			t.Errorf("All of %d: %d entries, %d", n, len(got), e)
		}
	}
	swapped := slices.Clone(l)
	swapped[10000], swapped[10001] = swapped[10001], swapped[10000]
	if b, e := Build(swapped, 7); e != api.ErrOrder || len(b) != 0 {
		t.Errorf("Build of 10002 not in order: %d bytes, %d", len(b), e)
	}
	swapped[10001].Key.Kind = 2
	if b, e := Build(swapped, 7); e != api.ErrArg || len(b) != 0 {
		t.Errorf("Build of 10002 with an invalid one: %d bytes, %d", len(b), e)
	}
}

func TestP1102Short(t *testing.T) {
	whole := build(t, rising(5), 2)
	for n := range 8 {
		for _, b := range [][]byte{make([]byte, n), whole[:n], whole[len(whole)-n:], bytes.Repeat([]byte{255}, n)} {
			if hold(t, b) != api.ErrShort {
				t.Errorf("%d bytes are not short", n)
			}
		}
	}
	if hold(t, nil) != api.ErrShort || hold(t, make([]byte, 8)) != api.ErrSum || hold(t, summed(make([]byte, 4))) != api.OK {
		t.Error("0 or 8 bytes")
	}
}

func TestP1102Sum(t *testing.T) {
	for _, b := range [][]byte{build(t, nil, 1), build(t, rising(1), 1), build(t, rising(9), 2), build(t, rising(9), 4)} {
		for i := range b {
			for bit := range 8 {
				bad := bytes.Clone(b)
				bad[i] ^= 1 << bit
				if hold(t, bad) != api.ErrSum {
					t.Errorf("bit %d of byte %d", bit, i)
				}
			}
		}
		for n := 8; n < len(b); n++ {
			hold(t, b[:n])
			hold(t, b[len(b)-n:])
		}
		// Damage that is more than a wrong checksum is a wrong checksum first.
		for _, bad := range [][]byte{append(bytes.Clone(b), 0), cat([]byte{0}, b), cat(b, b)} {
			if hold(t, bad) != api.ErrSum {
				t.Errorf("All of %x", bad)
			}
		}
	}
	// Without its mask it is wrong as well.
	plain := binary.LittleEndian.AppendUint32(make([]byte, 4), crc32.Checksum(make([]byte, 4), crc32.MakeTable(crc32.Castagnoli)))
	if hold(t, plain) != api.ErrSum {
		t.Error("a checksum that is not masked")
	}
}

// damaged are blocks whose checksums are right.
func damaged() [][]byte {
	var l [][]byte
	entries := []api.Entry{put("ab", 3, "v"), put("ab", 2, ""), del("b", 9), put("ba", 1, "w"), put("bb", 1, "")}
	for _, n := range []int{0, 1, 2, 3, 5} {
		for _, every := range []int{1, 2, 5} {
			b, _ := chapterBuild(entries[:n], every)
			l = append(l, b[:len(b)-4])
		}
	}
	return l
}

func TestP1102EveryByteAtEveryPlace(t *testing.T) {
	right := 0
	for _, body := range damaged() {
		for i := range body {
			for c := range 256 {
				bad := bytes.Clone(body)
				bad[i] = byte(c)
				if hold(t, summed(bad)) == api.OK && byte(c) != body[i] {
					right++
				}
			}
		}
	}
	if right == 0 {
		t.Error("no changed block is another one's encoding")
	}
}

func TestP1102EveryBitOfLongEntries(t *testing.T) {
	b := build(t, []api.Entry{put(text(130), 300, text(130)), put(text(131), 1, text(2))}, 2)
	body := b[:len(b)-4]
	for i := range body {
		for bit := range 8 {
			bad := bytes.Clone(body)
			bad[i] ^= 1 << bit
			hold(t, summed(bad))
		}
	}
}

func TestP1102BytesMissingAndAdded(t *testing.T) {
	for _, body := range damaged() {
		for i := range len(body) + 1 {
			for _, c := range []byte{0, 1, 3, 9, 10, 'a', 127, 128, 129, 255} {
				hold(t, summed(cat(body[:i], []byte{c}, body[i:])))
			}
			for n := 1; n < 14 && i+n <= len(body) && len(body)-n >= 4; n++ {
				hold(t, summed(cat(body[:i], body[i+n:])))
				hold(t, summed(cat(body[:i+n], body[i:])))
			}
		}
	}
}

func TestP1102RestartsOfNoInterval(t *testing.T) {
	l := []api.Entry{put("a", 2, ""), put("b", 2, ""), put("c", 2, ""), put("d", 2, ""), put("e", 2, "")}
	// Nothing is in common, so that each entry can begin at a restart point.
	whole, starts := chapterBuild(l, 1)
	body := whole[:starts[4]+12]
	right := 0
	for which := range 32 {
		var points []int
		for i, at := range starts {
			if which>>i&1 == 1 {
				points = append(points, at)
			}
		}
		if hold(t, summed(cat(body, tail(points...)))) == api.OK {
			right++
		}
		hold(t, summed(cat(body, tail(append(points, len(body))...))))
		hold(t, summed(cat(body, tail(append(points, 1<<31)...))))
		slices.Reverse(points)
		if len(points) > 1 && hold(t, summed(cat(body, tail(points...)))) != api.ErrSyntax {
			t.Errorf("restart points %v", points)
		}
	}
	// By 1, 2, 3, 4, and by 5 and more.
	if right != 5 {
		t.Errorf("%d sets of restart points are right, want 5", right)
	}
	for _, points := range [][]int{{0, 0}, {0, 0, 12, 24, 36, 48}, {0, 12, 12, 24}, {1}, {0, 23}, {0, 25}, {0, 1 << 24}, {0, math.MaxUint32}} {
		if hold(t, summed(cat(body, tail(points...)))) != api.ErrSyntax {
			t.Errorf("restart points %v", points)
		}
	}
}

// unbroken is the encoding of entries with only the first one as a restart point.
func unbroken(l []api.Entry) []byte {
	var out []byte
	for i := range l {
		pair, _ := chapterBuild(l[max(0, i-1):i+1], 2)
		skip := 0
		if i > 0 {
			alone, _ := chapterBuild(l[i-1:i], 2)
			skip = len(alone) - 12
		}
		out = append(out, pair[skip:len(pair)-12]...)
	}
	return out
}

func TestP1102TooFewRestarts(t *testing.T) {
	for _, n := range []int{99, 100, 101, 102, 200, 201, 202, 250} {
		want := api.ErrSyntax
		if n <= 100 {
			want = api.OK
		}
		body := unbroken(rising(n))
		if got := hold(t, summed(cat(body, tail(0)))); got != want {
			t.Errorf("one restart point of %d entries: %d, want %d", n, got, want)
		}
		if hold(t, summed(cat(body, tail()))) != api.ErrSyntax {
			t.Errorf("no restart point of %d entries", n)
		}
		more := unbroken(rising(n + 1)[n:])
		if got := hold(t, summed(cat(body, more, tail(0, len(body))))); got != want {
			t.Errorf("restart points by %d: %d, want %d", n, got, want)
		}
	}
}

func TestP1102RestartCount(t *testing.T) {
	body := build(t, rising(3), 1)
	body = body[:len(body)-8]
	for _, count := range []uint32{0, 1, 2, 3, 4, 5, uint32(len(body) / 4), uint32(len(body)/4 + 1), 1 << 8, 1 << 16, 1 << 24, 1 << 29, 1 << 30, 1<<30 + 3, 1 << 31, 1<<31 + 3, math.MaxUint32} {
		e := hold(t, summed(binary.LittleEndian.AppendUint32(bytes.Clone(body), count)))
		if (e == api.OK) != (count == 3) {
			t.Errorf("%d restart points: %d", count, e)
		}
	}
	for _, bad := range [][]byte{{1, 0, 0, 0}, {255, 255, 255, 255}, {0, 0, 0, 1}, {0, 0, 0, 64}, {0, 0, 0, 0, 1, 0, 0, 0}, {0, 0, 0, 0, 0}, {0, 0, 0, 0, 0, 0, 0, 0}} {
		if hold(t, summed(bad)) != api.ErrSyntax {
			t.Errorf("%v is a block", bad)
		}
	}
}

func TestP1102EntriesThatAreNone(t *testing.T) {
	uvarint := func(l ...uint64) []byte {
		var out []byte
		for _, x := range l {
			out = binary.AppendUvarint(out, x)
		}
		return out
	}
	a, b := encoded(key("a", 2, api.Put)), encoded(key("b", 2, api.Put))
	first := cat(uvarint(0, 9, 0), a)
	long := encoded(key(text(257), 2, api.Put))
	value := []byte(text(4097))
	for i, bad := range [][]byte{
		{0}, {128}, {0, 128}, {0, 9, 128}, {0, 0, 0}, {0, 9, 0}, {0, 9}, cat(uvarint(0, 9, 0), a[:8]),
		cat([]byte{128, 0, 9, 0}, a), cat([]byte{0, 137, 0, 0}, a), cat([]byte{0, 9, 128, 0}, a),
		cat(uvarint(1, 8, 0), a[1:]), cat(uvarint(0, 8, 0), a[1:]), cat(uvarint(0, 8, 1), a), cat(uvarint(0, 10, 0), a),
		cat(uvarint(0, 9, 1), a), cat(uvarint(0, 9, math.MaxUint64), a), cat(uvarint(0, math.MaxUint64, 9), a), cat(uvarint(math.MaxUint64, 9, 0), a),
		cat(uvarint(0, 1<<63, 1<<63), a), cat(uvarint(0, math.MaxInt64, math.MaxInt64), a), cat(uvarint(1<<32, 9, 1<<32), a), cat(uvarint(0, 1<<32+9, 0), a),
		cat(uvarint(0, uint64(len(long)), 0), long), cat(uvarint(0, 9, 4097), a, value),
		cat(uvarint(0, 9, 1), encoded(key("a", 2, api.Delete)), value[:1]), cat(uvarint(0, 9, 0), encoded(key("a", 2, 2))),
		cat(first, uvarint(0, 9, 0), a), cat(uvarint(0, 9, 0), b, first), cat(first, uvarint(9, 0, 0)), cat(first, uvarint(10, 9, 0), b),
		cat(first, uvarint(1, 8, 0), a[1:]), cat(first, first, first), cat(first, []byte{0, 9, 0}), cat(first, first[:11]),
	} {
		if e := hold(t, summed(cat(bad, tail(0)))); e != api.ErrSyntax {
			t.Errorf("entries %d: %d", i, e)
		}
	}
	// The common prefix with an entry that follows has to be as long as possible.
	for n := range 10 {
		next := encoded(key("a", 1, api.Put))
		bad := cat(first, uvarint(uint64(n), uint64(9-n), 0), next[n:])
		if e := hold(t, summed(cat(bad, tail(0)))); (e == api.OK) != (n == 2) {
			t.Errorf("a common prefix of %d: %d", n, e)
		}
		// At a restart point it has to be 0.
		if e := hold(t, summed(cat(bad, tail(0, len(first))))); (e == api.OK) != (n == 0) {
			t.Errorf("a common prefix of %d at a restart point: %d", n, e)
		}
	}
}

func TestP1102SeekAtAndBesideEachKey(t *testing.T) {
	l := []api.Entry{put("a", 7, "seven"), del("a", 7), put("a", 5, ""), put("a\x00", 9, "x"), put("aa", api.MaxSeq, ""), del("b", 0), put(text(256), 3, "y")}
	var keys []api.IKey
	for _, k := range []string{"", "\x00", "`", "a", "a\x00", "a\x00\x00", "aa", "b", "b\x00", "c", text(255), text(256), text(257), "\xff"} {
		for _, seq := range []uint64{0, 1, 4, 5, 6, 7, 8, 9, api.MaxSeq, api.MaxSeq + 1, math.MaxUint64} {
			for _, kind := range []int{math.MinInt, -1, 0, 1, 2, math.MaxInt} {
				keys = append(keys, key(k, seq, kind))
			}
		}
	}
	for n := range len(l) + 1 {
		for every := range 9 {
			if hold(t, build(t, l[:n], every), keys...) != api.OK {
				t.Errorf("All of %d by %d", n, every)
			}
		}
	}
}

// drawn is up to n entries in order, with many prefixes in common.
func drawn(r *rand.Rand, n int) []api.Entry {
	var l []api.Entry
	for range r.Intn(n + 1) {
		k := make([]byte, 1+r.Intn(3)*r.Intn(100))
		for i := range k {
			k[i] = "aaaaaab\x00\x01\xff"[r.Intn(10)]
		}
		e := api.Entry{Key: api.IKey{Key: k, Seq: uint64(r.Intn(4)), Kind: r.Intn(2)}}
		if r.Intn(4) == 0 {
			e.Key.Seq = uint64(r.Int63()) & api.MaxSeq
		}
		if e.Key.Kind == api.Put {
			e.Value = make([]byte, r.Intn(1+r.Intn(200)))
			r.Read(e.Value)
		}
		l = append(l, e)
	}
	sort.Slice(l, func(i, j int) bool { return order(l[i].Key, l[j].Key) < 0 })
	return slices.CompactFunc(l, func(a, b api.Entry) bool { return order(a.Key, b.Key) == 0 })
}

func TestP1103RoundTrip(t *testing.T) {
	r := rand.New(rand.NewSource(11))
	for range 1500 {
		l := drawn(r, 1+r.Intn(130))
		every := intervals[r.Intn(len(intervals))]
		b := build(t, l, every)
		got, e := All(b)
		if e != api.OK || !same(got, l) {
			t.Fatalf("All of %d by %d: %d entries, %d", len(l), every, len(got), e)
		}
		_, points := chapterBuild(l, every)
		// Without a second restart point the interval only reaches the end.
		smallest := max(1, min(len(l), every, 100))
		if got, n, e := Open(b); e != api.OK || n != smallest || !same(got, l) {
			t.Fatalf("Open of %d by %d: %d entries by %d, %d, want %d", len(l), every, len(got), n, e, smallest)
		}
		if got, e := Restarts(b); e != api.OK || !slices.Equal(got, points) {
			t.Fatalf("Restarts of %d by %d: %v, %d, want %v", len(l), every, got, e, points)
		}
		again, e := Build(got, every)
		if e != api.OK || !bytes.Equal(again, b) {
			t.Fatalf("Build of what All returned: %x, %d, want %x", again, e, b)
		}
	}
}

func TestP1102DrawnDamage(t *testing.T) {
	r := rand.New(rand.NewSource(1102))
	for range 20000 {
		b, _ := chapterBuild(drawn(r, 8), 1+r.Intn(9))
		body := b[:len(b)-4]
		for range 1 + r.Intn(3) {
			i := r.Intn(len(body))
			switch r.Intn(3) {
			case 0:
				body[i] = byte(r.Intn(12))
			case 1:
				body[i] ^= 1 << r.Intn(8)
			default:
				copy(body[i:], body[r.Intn(len(body)):])
			}
		}
		hold(t, summed(body))
	}
}

// wide is b with spare capacity that has content.
func wide(b []byte) []byte {
	return append(bytes.Clone(b), "spare"...)[:len(b)]
}

func TestP1103ArgumentsStay(t *testing.T) {
	l := []api.Entry{put("ab", 3, "v"), put("abc", 2, "w"), del("b", 9)}
	given := make([]api.Entry, 0, 4)
	for _, e := range l {
		given = append(given, api.Entry{Key: api.IKey{Key: wide(e.Key.Key), Seq: e.Key.Seq, Kind: e.Key.Kind}, Value: wide(e.Value)})
	}
	given[:4][3] = put("spare", 1, "spare")
	b, _ := Build(given, 2)
	kept := bytes.Clone(b)
	if !same(given, l) || !sameEntry(given[:4][3], put("spare", 1, "spare")) {
		t.Error("Build changed the entries")
	}
	for _, e := range given {
		if string(e.Key.Key[:cap(e.Key.Key)][len(e.Key.Key):][:5]) != "spare" || string(e.Value[:cap(e.Value)][len(e.Value):][:5]) != "spare" {
			t.Error("Build changed spare capacity")
		}
		clear(e.Key.Key)
		clear(e.Value)
	}
	if !bytes.Equal(b, kept) {
		t.Error("Build kept an entry")
	}
	block := wide(b)
	all, _ := All(block)
	points, _ := Restarts(block)
	k := key("b", 10, api.Put)
	found, _, _ := Seek(block, k)
	if !bytes.Equal(block, b) || string(block[:len(b)+5][len(b):]) != "spare" {
		t.Error("a block was changed")
	}
	clear(block[:len(b)+5])
	clear(k.Key)
	if !same(all, l) || !slices.Equal(points, []int{0, 27}) || !sameEntry(found, l[2]) {
		t.Errorf("results share bytes with the block: %v, %v, %v", all, points, found)
	}
}

func TestP1103ResultsAreSeparate(t *testing.T) {
	l := []api.Entry{put("ab", 3, "v"), put("abc", 2, "w"), put("abd", 9, "x")}
	b := build(t, l, 3)
	all, _ := All(b)
	again, _ := All(b)
	first, _, _ := Seek(b, l[0].Key)
	second, _, _ := Seek(b, l[0].Key)
	for i := range all {
		all[i].Key.Key = append(all[i].Key.Key, "yyyyyyyy"...)
		all[i].Value = append(all[i].Value, "zzzzzzzz"...)
		clear(all[i].Key.Key)
		clear(all[i].Value)
		if !same(all[i+1:], l[i+1:]) {
			t.Errorf("entry %d shares bytes with one behind it", i)
		}
	}
	clear(first.Key.Key)
	clear(first.Value)
	if !same(again, l) || !sameEntry(second, l[0]) {
		t.Error("two results share bytes")
	}
	points, _ := Restarts(b)
	points[0] = 9
	other, _ := Build(l, 3)
	clear(other)
	if hold(t, b, l[0].Key, l[1].Key) != api.OK {
		t.Error("a result is kept")
	}
}
