package table

import (
	"bytes"
	"encoding/binary"
	"hash/crc32"
	"math"
	"math/rand"
	"slices"
	"sort"
	"strings"
	"testing"

	"buttery/api"
	"buttery/block"
	"buttery/bloom"
)

func text(n int) string { return strings.Repeat("x", n) }

func put(k string, seq uint64, v string) api.Entry {
	return api.Entry{Key: api.IKey{Key: []byte(k), Seq: seq, Kind: api.Put}, Value: []byte(v)}
}

func del(k string, seq uint64) api.Entry {
	return api.Entry{Key: api.IKey{Key: []byte(k), Seq: seq, Kind: api.Delete}}
}

func sameEntry(a, b api.Entry) bool {
	return bytes.Equal(a.Key.Key, b.Key.Key) && a.Key.Seq == b.Key.Seq && a.Key.Kind == b.Key.Kind && bytes.Equal(a.Value, b.Value)
}

func same(a, b []api.Entry) bool { return slices.EqualFunc(a, b, sameEntry) }

func cat(l ...[]byte) []byte { return slices.Concat(l...) }

// order compares keys by the words of chapter 4.
func order(a, b api.IKey) int {
	switch c := bytes.Compare(a.Key, b.Key); {
	case c != 0:
		return c
	case a.Seq != b.Seq && a.Seq > b.Seq || a.Seq == b.Seq && a.Kind > b.Kind:
		return -1
	case a.Seq == b.Seq && a.Kind == b.Kind:
		return 0
	}
	return 1
}

// summed is bytes with their checksum behind them.
func summed(b []byte) []byte {
	x := crc32.Checksum(b, crc32.MakeTable(crc32.Castagnoli))
	return binary.LittleEndian.AppendUint32(bytes.Clone(b), (x>>15|x<<17)+0xa282ead8)
}

// foot is a footer of these numbers.
func foot(l ...int) []byte {
	var out []byte
	for _, x := range l {
		out = binary.LittleEndian.AppendUint32(out, uint32(x))
	}
	return summed(out)
}

// place is the Value of an index entry.
func place(at, length int) []byte {
	return binary.AppendUvarint(binary.AppendUvarint(nil, uint64(at)), uint64(length))
}

// built is a block of entries that are right.
func built(l []api.Entry, every int) []byte {
	b, e := block.Build(l, every)
	if e != api.OK {
		panic("not a block")
	}
	return b
}

// A draft is a table by its parts. What is not set is what it has to be.
type draft struct {
	blocks [][]byte
	index  []api.Entry
	gap    []byte
	filter []byte
	count  int
	// whole is the index block, and numbers make the footer of what it has to be.
	whole   func(index []api.Entry) []byte
	numbers func(l []int) []int
}

func (d draft) bytes() []byte {
	data := append(cat(d.blocks...), d.gap...)
	whole := d.whole
	if whole == nil {
		whole = func(index []api.Entry) []byte { return built(index, 1) }
	}
	x := whole(d.index)
	numbers := []int{len(data), len(d.filter), len(data) + len(d.filter), len(x), d.count}
	if d.numbers != nil {
		numbers = d.numbers(numbers)
	}
	return cat(data, d.filter, x, foot(numbers...))
}

// drafted is the table of blocks with these entries, and with these intervals.
func drafted(parts [][]api.Entry, bits int, everies ...int) draft {
	var d draft
	var keys [][]byte
	at := 0
	for i, part := range parts {
		b := built(part, everies[i%len(everies)])
		k := part[len(part)-1].Key
		k.Kind = 1
		d.blocks = append(d.blocks, b)
		d.index = append(d.index, api.Entry{Key: k, Value: place(at, len(b))})
		d.count += len(part)
		at += len(b)
		for _, e := range part {
			if !slices.ContainsFunc(keys, func(k []byte) bool { return bytes.Equal(k, e.Key.Key) }) {
				keys = append(keys, e.Key.Key)
			}
		}
	}
	d.filter = bloom.Build(keys, bits)
	return d
}

// chapterParts distributes entries by the words of the chapter.
func chapterParts(l []api.Entry, size int) [][]api.Entry {
	if size < 1 {
		size = 1
	}
	if size > 1048576 {
		size = 1048576
	}
	var parts [][]api.Entry
	for len(l) > 0 {
		n, have := 0, 0
		for n < len(l) && have < size {
			have += len(l[n].Key.Key) + 8 + len(l[n].Value)
			n++
		}
		parts = append(parts, l[:n])
		l = l[n:]
	}
	return parts
}

// chapterBuild is for entries that are right.
func chapterBuild(l []api.Entry, size, every, bits int) []byte {
	return drafted(chapterParts(l, size), bits, every).bytes()
}

func chapterError(l []api.Entry) api.Errno {
	if _, e := block.Build(l, 1); e != api.OK {
		return e
	}
	for i, a := range l {
		for _, b := range l[:i] {
			if bytes.Equal(a.Key.Key, b.Key.Key) && a.Key.Seq == b.Key.Seq {
				return api.ErrOrder
			}
		}
	}
	if len(l) == 0 {
		return api.ErrArg
	}
	return api.OK
}

// chapterOpen holds a table against all that Build can make of its entries.
func chapterOpen(b []byte) (l, index []api.Entry, errno api.Errno) {
	if len(b) < 24 {
		return nil, nil, api.ErrShort
	}
	end := len(b) - 24
	footer := b[end:]
	if !bytes.Equal(summed(footer[:20]), footer) {
		return nil, nil, api.ErrSum
	}
	number := func(i int) int { return int(binary.LittleEndian.Uint32(footer[4*i:])) }
	if number(0)+number(1) != number(2) || number(2)+number(3) != end {
		return nil, nil, api.ErrSyntax
	}
	index, e := chapterBlock(b[number(2):end])
	if e != api.OK {
		return nil, nil, e
	}
	if !bytes.Equal(built(index, 1), b[number(2):end]) {
		return nil, nil, api.ErrSyntax
	}
	most, at := 1, 0
	for _, x := range index {
		_, skip := binary.Uvarint(x.Value)
		length, _ := binary.Uvarint(x.Value[max(skip, 0):])
		if length > uint64(number(2)-at) || !bytes.Equal(x.Value, place(at, int(length))) {
			return nil, nil, api.ErrSyntax
		}
		part, e := chapterBlock(b[at : at+int(length)])
		if e != api.OK {
			return nil, nil, e
		}
		if len(part) == 0 || order(x.Key, api.IKey{Key: part[len(part)-1].Key.Key, Seq: part[len(part)-1].Key.Seq, Kind: 1}) != 0 {
			return nil, nil, api.ErrSyntax
		}
		l, at, most = append(l, part...), at+int(length), max(most, len(part))
	}
	if chapterError(l) != api.OK || !chapterMade(l, most, b, b[number(0):number(2)]) {
		return nil, nil, api.ErrSyntax
	}
	return l, index, api.OK
}

func chapterBlock(b []byte) ([]api.Entry, api.Errno) {
	l, e := block.All(b)
	if e != api.OK && e != api.ErrSum {
		e = api.ErrSyntax
	}
	return l, e
}

// chapterMade tells whether any size, every and bits make b; no block has more than
// most entries.
func chapterMade(l []api.Entry, most int, b, filter []byte) bool {
	sizes := map[int]int{1: 1}
	for i := range l {
		sum := 0
		for _, e := range l[i:] {
			sum += len(e.Key.Key) + 8 + len(e.Value)
			sizes[sum+1] = 1
		}
	}
	for bits := 1; bits <= 40; bits++ {
		if !bytes.Equal(drafted([][]api.Entry{l}, bits, 1).filter, filter) {
			continue
		}
		for every := 1; every <= min(most, 100); every++ {
			for size := range sizes {
				if bytes.Equal(chapterBuild(l, size, every, bits), b) {
					return true
				}
			}
		}
	}
	return false
}

// A request is what Get is asked for.
type request struct {
	key string
	seq uint64
}

// hold holds what is asked of a table against the chapter, and returns Check's error.
func hold(t *testing.T, b []byte, asked ...request) api.Errno {
	t.Helper()
	l, index, errno := chapterOpen(b)
	holdTo(t, b, l, index, errno, asked...)
	return errno
}

func holdTo(t *testing.T, b []byte, l, index []api.Entry, errno api.Errno, asked ...request) {
	t.Helper()
	kept := bytes.Clone(b)
	if e := Check(b); e != errno {
		t.Fatalf("Check of %x: %d, want %d", b, e, errno)
	}
	if got, e := All(b); e != errno || !same(got, l) {
		t.Fatalf("All of %x: %v, %d, want %v, %d", b, got, e, l, errno)
	}
	if got, e := Index(b); e != errno || !same(got, index) {
		t.Fatalf("Index of %x: %v, %d, want %v, %d", b, got, e, index, errno)
	}
	for _, x := range append(asked, request{"a", 9}) {
		i := slices.IndexFunc(l, func(e api.Entry) bool { return string(e.Key.Key) == x.key && e.Key.Seq <= x.seq })
		var first api.Entry
		if i >= 0 {
			first = l[i]
		}
		if got, ok, e := Get(b, []byte(x.key), x.seq); e != errno || ok != (i >= 0) || !sameEntry(got, first) {
			t.Fatalf("Get of %q, %d: %v, %t, %d, want %v, %t, %d", x.key, x.seq, got, ok, e, first, i >= 0, errno)
		}
	}
	if !bytes.Equal(b, kept) {
		t.Fatalf("a table was changed: %x, was %x", b, kept)
	}
}

// build builds a table and reads it again.
func build(t *testing.T, l []api.Entry, size, every, bits int) []byte {
	t.Helper()
	b, e := Build(l, size, every, bits)
	if want := chapterBuild(l, size, every, bits); e != api.OK || !bytes.Equal(b, want) {
		t.Fatalf("Build of %d, %d, %d, %d: %x, %d, want %x", len(l), size, every, bits, b, e, want)
	}
	var index []api.Entry
	at := 0
	for _, part := range chapterParts(l, size) {
		k, length := part[len(part)-1].Key, len(built(part, every))
		index = append(index, api.Entry{Key: api.IKey{Key: k.Key, Seq: k.Seq, Kind: 1}, Value: place(at, length)})
		at += length
	}
	holdTo(t, b, l, index, api.OK)
	return b
}

// few are entries that count 12, 12, 12, 13, 9, 11 and 15 bytes.
func few() []api.Entry {
	return []api.Entry{put("aa", 5, "12"), put("aa", 3, "34"), del("ab12", 9), put("ab12", 8, "7"), del("b", 1), put("ca", 2, "2"), put("d", 7, "678901")}
}

// rising is n entries in order; every second user key has two of them.
func rising(n int) []api.Entry {
	var l []api.Entry
	for i := range n {
		k := string([]byte{'k', byte(i / 3 >> 8), byte(i / 3), byte(i % 3 / 2)})
		if i%5 == 0 {
			l = append(l, del(k, uint64(9-i%3)))
		} else {
			l = append(l, put(k, uint64(9-i%3), text(i%7)))
		}
	}
	return l
}

var limits = []int{math.MinInt, -1 << 32, -1, 0, 1, 2, 3, 39, 40, 41, 99, 100, 101, 1 << 32, 1<<32 + 1, math.MaxInt}

func TestP1301Examples(t *testing.T) {
	b, e := Build([]api.Entry{put("a", 2, "v")}, 1, 1, 1)
	want := cat(
		summed([]byte{0, 9, 1, 'a', 1, 2, 0, 0, 0, 0, 0, 0, 'v', 0, 0, 0, 0, 1, 0, 0, 0}),
		[]byte{0, 0, 0, 0, 0, 0x10, 0, 0, 1},
		summed([]byte{0, 9, 2, 'a', 1, 2, 0, 0, 0, 0, 0, 0, 0, 25, 0, 0, 0, 0, 1, 0, 0, 0}),
		summed([]byte{25, 0, 0, 0, 9, 0, 0, 0, 34, 0, 0, 0, 26, 0, 0, 0, 1, 0, 0, 0}),
	)
	if e != api.OK || !bytes.Equal(b, want) {
		t.Errorf("one entry: %x, %d, want %x", b, e, want)
	}
	b, e = Build([]api.Entry{put("a", 2, "v"), del("a", 1)}, 10, 7, 5)
	want = cat(
		summed([]byte{0, 9, 1, 'a', 1, 2, 0, 0, 0, 0, 0, 0, 'v', 0, 0, 0, 0, 1, 0, 0, 0}),
		summed([]byte{0, 9, 0, 'a', 0, 1, 0, 0, 0, 0, 0, 0, 0, 0, 0, 0, 1, 0, 0, 0}),
		// Of two entries, but one user key.
		[]byte{0, 0, 0, 0, 0, 0x10, 4, 1, 3},
		summed([]byte{
			0, 9, 2, 'a', 1, 2, 0, 0, 0, 0, 0, 0, 0, 25,
			0, 9, 2, 'a', 1, 1, 0, 0, 0, 0, 0, 0, 25, 24,
			0, 0, 0, 0, 14, 0, 0, 0, 2, 0, 0, 0,
		}),
		summed([]byte{49, 0, 0, 0, 9, 0, 0, 0, 58, 0, 0, 0, 44, 0, 0, 0, 2, 0, 0, 0}),
	)
	if e != api.OK || !bytes.Equal(b, want) {
		t.Errorf("two entries: %x, %d, want %x", b, e, want)
	}
}

func TestP1301EverySize(t *testing.T) {
	for n := 1; n <= len(few()); n++ {
		for size := -2; size < 90; size++ {
			build(t, few()[:n], size, 2, 10)
		}
	}
	for _, size := range append(limits, 1<<20-1, 1<<20, 1<<20+1) {
		build(t, rising(60), size, 3, 10)
	}
	for i, ends := range map[int][]int{
		1: {1, 2, 3, 4, 5, 6, 7}, 12: {1, 2, 3, 4, 6, 7}, 13: {2, 4, 6, 7}, 24: {2, 4, 7}, 25: {3, 6, 7}, 68: {6, 7}, 69: {6, 7}, 70: {7}, 84: {7},
	} {
		index, _ := Index(build(t, few(), i, 2, 10))
		if len(index) != len(ends) {
			t.Errorf("size %d: %d blocks, want %d", i, len(index), len(ends))
			continue
		}
		for k, end := range ends {
			if x := few()[end-1].Key; order(index[k].Key, api.IKey{Key: x.Key, Seq: x.Seq, Kind: 1}) != 0 {
				t.Errorf("size %d: block %d ends with %v, want %v", i, k, index[k].Key, x)
			}
		}
	}
}

// heavy is n entries of 4000 bytes each by their size.
func heavy(n int) []api.Entry {
	var l []api.Entry
	for i := range n {
		l = append(l, put(string([]byte{'h', byte(i >> 8), byte(i)}), 1, text(4000-11)))
	}
	return l
}

func TestP1301GreatestSize(t *testing.T) {
	// 262 entries have 1048000 bytes: 576 less than the greatest size.
	l := heavy(262)
	for more, last := range map[int]string{575: "j", 576: "i", 577: "i"} {
		all := append(slices.Clone(l), put("i", 1, text(more-9)), put("j", 1, ""), put("k", 1, ""))
		for _, size := range []int{1 << 20, 1<<20 + 1, math.MaxInt} {
			index, _ := Index(build(t, all, size, 16, 10))
			if len(index) != 2 || string(index[0].Key.Key) != last {
				t.Errorf("%d more than 1048000 bytes, size %d: %v, want %s", more, size, index, last)
			}
		}
		if index, _ := Index(build(t, all, 1<<20-1, 16, 10)); len(index) != 2 || string(index[0].Key.Key) != "i" {
			t.Errorf("%d more than 1048000 bytes, size 1048575: %v", more, index)
		}
	}
}

func TestP1301EveryIntervalAndBits(t *testing.T) {
	for _, n := range []int{1, 2, 3, 99, 100, 101, 150, 203} {
		l := rising(n)
		for _, every := range limits {
			build(t, l, 1<<20, every, 10)
			build(t, l, 300, every, 10)
		}
		for _, bits := range limits {
			build(t, l, 300, 16, bits)
		}
	}
	for bits := range 43 {
		build(t, few(), 20, 1, bits)
		build(t, rising(9), 20, 1, bits)
		build(t, rising(1), 20, 1, bits)
	}
}

func TestP1301EntriesAtTheirLimits(t *testing.T) {
	for _, e := range []api.Entry{
		put("\x00", 0, ""), put(text(256), api.MaxSeq, text(4096)), del(text(256), api.MaxSeq), del("a", 0), put("a", 1, text(4095)),
	} {
		build(t, []api.Entry{e}, 1, 1, 10)
		build(t, []api.Entry{put("\x00", 1, ""), e}, 1, 1, 10)
		build(t, []api.Entry{put("\x00", 1, ""), e}, 1<<20, 1, 10)
	}
}

func TestP1301Errors(t *testing.T) {
	a, b := put("a", 2, "v"), put("b", 2, "")
	twins := []api.Entry{put("c", 2, ""), del("c", 2)}
	refused := func(want api.Errno, parts ...[]api.Entry) {
		t.Helper()
		l := slices.Concat(parts...)
		for _, x := range limits {
			if got, e := Build(l, x, x, x); e != want || len(got) != 0 {
				t.Errorf("Build of %d, %d: %x, %d, want %d", len(l), x, got, e, want)
			}
		}
	}
	for _, e := range []api.Entry{
		{}, put("", 1, ""), put(text(257), 1, ""), put("z", api.MaxSeq+1, ""), put("z", 1, text(4097)),
		{Key: api.IKey{Key: []byte("z"), Seq: 1}, Value: []byte("v")}, {Key: api.IKey{Key: []byte("z"), Seq: 1, Kind: 2}}, {Key: api.IKey{Key: []byte("z"), Seq: 1, Kind: -1}},
	} {
		refused(api.ErrArg, []api.Entry{e})
		refused(api.ErrArg, []api.Entry{a, b, e})
		refused(api.ErrArg, []api.Entry{e, b, a})
		refused(api.ErrArg, []api.Entry{b, a, e})
		refused(api.ErrArg, twins, []api.Entry{e})
		refused(api.ErrArg, rising(10000), []api.Entry{e})
	}
	refused(api.ErrArg)
	refused(api.ErrOrder, []api.Entry{b, a})
	refused(api.ErrOrder, []api.Entry{a, a})
	refused(api.ErrOrder, []api.Entry{put("a", 1, ""), put("a", 2, "")})
	refused(api.ErrOrder, []api.Entry{twins[1], twins[0]})
	refused(api.ErrOrder, twins)
	refused(api.ErrOrder, []api.Entry{a, b}, twins)
	refused(api.ErrOrder, twins, []api.Entry{put("d", 2, "")})
	refused(api.ErrOrder, rising(10001), []api.Entry{a})
	// Too many are told ahead of two with one Seq.
	refused(api.ErrLong, twins, rising(9999))
	refused(api.ErrOrder, twins, rising(9998))
	refused(api.ErrLong, rising(10001))
	// The same Seq of other user keys, and another Seq of the same one, are right.
	build(t, []api.Entry{a, put("aa", 2, ""), b, del("b", 1)}, 1, 1, 1)
}

func TestP1301MostEntries(t *testing.T) {
	l := rising(10000)
	for _, size := range []int{1, 4096, 1 << 20} {
		build(t, l, size, 16, 10)
	}
}

func TestP1302Short(t *testing.T) {
	if e := Check(nil); e != api.ErrShort {
		t.Errorf("Check of no bytes: %d", e)
	}
	whole := build(t, few(), 20, 2, 10)
	for n := range 24 {
		for _, b := range [][]byte{make([]byte, n), whole[:n], whole[len(whole)-n:], bytes.Repeat([]byte{255}, n)} {
			if hold(t, b) != api.ErrShort {
				t.Errorf("%d bytes are not short", n)
			}
		}
	}
	if hold(t, make([]byte, 24)) != api.ErrSum || hold(t, foot(0, 0, 0, 0, 0)) != api.ErrSyntax {
		t.Error("24 bytes")
	}
}

func TestP1302EveryBit(t *testing.T) {
	for _, b := range [][]byte{build(t, few(), 20, 2, 10), build(t, few()[:1], 1, 1, 1), build(t, few(), 1, 3, 40)} {
		footer := b[len(b)-24:]
		filter, index := int(binary.LittleEndian.Uint32(footer)), int(binary.LittleEndian.Uint32(footer[8:]))
		for i := range b {
			want := api.ErrSum
			if i >= filter && i < index {
				want = api.ErrSyntax
			}
			for bit := range 8 {
				bad := bytes.Clone(b)
				bad[i] ^= 1 << bit
				if e := hold(t, bad); e != want {
					t.Errorf("bit %d of byte %d: %d, want %d", bit, i, e, want)
				}
			}
		}
	}
}

func TestP1302BytesMissingAndAdded(t *testing.T) {
	b := build(t, few(), 20, 2, 10)
	for i := range b {
		for _, bad := range [][]byte{b[:i], b[i+1:], cat(b[:i], b[i+1:]), cat(b[:i], []byte{0}, b[i:])} {
			if hold(t, bad) == api.OK {
				t.Errorf("byte %d missing or added", i)
			}
		}
	}
	for _, bad := range [][]byte{cat(b, []byte{0}), cat([]byte{0}, b), cat(b, b), cat(b, b[len(b)-24:])} {
		if hold(t, bad) == api.OK {
			t.Errorf("All of %x", bad)
		}
	}
}

func TestP1302FooterNumbers(t *testing.T) {
	d := drafted(chapterParts(few(), 20), 10, 2)
	right := d.bytes()
	if hold(t, right) != api.OK {
		t.Fatal("the draft is no table")
	}
	all := []int{0, 1, 8, 9, 23, 24, 100, len(right) - 24, len(right), 1 << 16, 1 << 31, math.MaxUint32 - 8, math.MaxUint32}
	for i := range 5 {
		for _, x := range all {
			d.numbers = func(l []int) []int { return append(append(slices.Clone(l[:i]), x), l[i+1:]...) }
			if b := d.bytes(); !bytes.Equal(b, right) && hold(t, b) != api.ErrSyntax {
				t.Errorf("number %d as %d", i, x)
			}
		}
		for _, more := range []int{-2, -1, 1, 2, 256, -256} {
			d.numbers = func(l []int) []int {
				l[i] += more
				return l
			}
			if hold(t, d.bytes()) != api.ErrSyntax {
				t.Errorf("number %d and %d", i, more)
			}
			// Each of two is off, so that their sum is right.
			d.numbers = func(l []int) []int {
				l[i] += more
				l[(i+1)%5] -= more
				return l
			}
			if hold(t, d.bytes()) != api.ErrSyntax {
				t.Errorf("number %d and %d, the next one the other way", i, more)
			}
		}
	}
	// The sums fit only where they are taken modulo 2^32.
	d.numbers = func(l []int) []int { return []int{math.MaxUint32, l[2] + 1, l[2], l[3], l[4]} }
	if hold(t, d.bytes()) != api.ErrSyntax {
		t.Error("a filter around all numbers")
	}
}

// A flaw is one thing that is wrong with a table; at is its place in the order in which
// the parts are checked.
type flaw struct {
	name  string
	at    int
	errno api.Errno
	put   func(d *draft)
}

// bent is a block with a wrong checksum.
func bent(b []byte) []byte {
	out := bytes.Clone(b)
	out[len(out)-1] ^= 1
	return out
}

// odd is a block that is none, but has the right checksum.
func odd(b []byte) []byte {
	out := bytes.Clone(b)
	out[0] = 1
	return summed(out[:len(out)-4])
}

func indexFlaws() []flaw {
	return []flaw{
		{"a footer's offset", 1, api.ErrSyntax, func(d *draft) {
			then := d.numbers
			d.numbers = func(l []int) []int {
				if then != nil {
					l = then(l)
				}
				l[3]++
				return l
			}
		}},
		{"the index's checksum", 2, api.ErrSum, func(d *draft) {
			d.whole = func(index []api.Entry) []byte { return bent(built(index, 1)) }
		}},
		{"the index", 2, api.ErrSyntax, func(d *draft) {
			d.whole = func(index []api.Entry) []byte { return odd(built(index, 1)) }
		}},
		{"the index by 2", 2, api.ErrSyntax, func(d *draft) {
			d.whole = func(index []api.Entry) []byte { return built(index, 2) }
		}},
		{"the index of 7 bytes", 2, api.ErrSyntax, func(d *draft) {
			d.whole = func(index []api.Entry) []byte { return make([]byte, 7) }
		}},
	}
}

func blockFlaws(i int) []flaw {
	at := 10 * (i + 1)
	return []flaw{
		{"an offset", at, api.ErrSyntax, func(d *draft) { d.index[i].Value[0] ^= 1 }},
		{"a Value and more", at, api.ErrSyntax, func(d *draft) { d.index[i].Value = append(bytes.Clone(d.index[i].Value), 0) }},
		{"a length beyond the data", at, api.ErrSyntax, func(d *draft) {
			offset, _ := binary.Uvarint(d.index[i].Value)
			d.index[i].Value = place(int(offset), 1<<30)
		}},
		{"a block's checksum", at + 1, api.ErrSum, func(d *draft) { d.blocks[i] = bent(d.blocks[i]) }},
		{"a block", at + 1, api.ErrSyntax, func(d *draft) { d.blocks[i] = odd(d.blocks[i]) }},
		{"an index key's Seq", at + 2, api.ErrSyntax, func(d *draft) { d.index[i].Key.Seq-- }},
		{"an index key's Key", at + 2, api.ErrSyntax, func(d *draft) { d.index[i].Key.Key = append(bytes.Clone(d.index[i].Key.Key), 0) }},
	}
}

func otherFlaws() []flaw {
	number := func(change func(l []int)) func(d *draft) {
		return func(d *draft) {
			then := d.numbers
			d.numbers = func(l []int) []int {
				change(l)
				if then != nil {
					l = then(l)
				}
				return l
			}
		}
	}
	return []flaw{
		{"where the filter begins, earlier", 99, api.ErrSyntax, number(func(l []int) { l[0], l[1] = l[0]-1, l[1]+1 })},
		{"where the filter begins, at 0", 99, api.ErrSyntax, number(func(l []int) { l[0], l[1] = 0, l[2] })},
		{"where the filter begins, later", 99, api.ErrSyntax, number(func(l []int) { l[0], l[1] = l[0]+1, l[1]-1 })},
		{"how many entries there are", 99, api.ErrSyntax, number(func(l []int) { l[4]++ })},
		{"bytes ahead of the filter", 99, api.ErrSyntax, func(d *draft) { d.gap = []byte{0} }},
		{"the filter", 99, api.ErrSyntax, func(d *draft) { d.filter[0] ^= 1 }},
		{"no filter", 99, api.ErrSyntax, func(d *draft) { d.filter = nil }},
	}
}

// TestP1302TheFirstFlawTells puts each two flaws of unlike parts into one table.
func TestP1302TheFirstFlawTells(t *testing.T) {
	flaws := indexFlaws()
	parts := chapterParts(few(), 20)
	for i := range parts {
		flaws = append(flaws, blockFlaws(i)...)
	}
	flaws = append(flaws, otherFlaws()...)
	for _, first := range flaws {
		for _, second := range flaws {
			d := drafted(parts, 10, 2)
			second.put(&d)
			if first.at < second.at {
				first.put(&d)
			} else if first.name != second.name || first.at != second.at {
				continue
			}
			if e := hold(t, d.bytes()); e != first.errno {
				t.Errorf("%s (%d) and %s (%d): %d, want %d", first.name, first.at, second.name, second.at, e, first.errno)
			}
		}
	}
}

// TestP1302AFlawOfTheWholeTellsLast puts a wrong checksum into tables of whose entries
// or blocks together something is wrong.
func TestP1302AFlawOfTheWholeTellsLast(t *testing.T) {
	l := few()
	for i, d := range []draft{
		// No size; two intervals; entries twice, not in order, and two of one Seq.
		drafted([][]api.Entry{l[:1], l[1:4], l[4:6], l[6:]}, 10, 2),
		drafted([][]api.Entry{l[:2], l[2:4], l[4:6], l[6:]}, 10, 2, 1),
		drafted([][]api.Entry{l[:3], l[2:5], l[5:]}, 10, 9),
		drafted([][]api.Entry{{l[0], l[2]}, l[1:4], l[4:]}, 10, 9),
		drafted([][]api.Entry{{put("c", 1, ""), put("d", 1, "")}, {put("b", 1, ""), put("e", 1, "")}}, 10, 9),
		drafted([][]api.Entry{{put("a", 1, ""), del("a", 1)}, {put("b", 1, "")}}, 10, 9),
		drafted([][]api.Entry{{put("a", 2, ""), put("a", 1, "")}, {del("a", 1), put("b", 1, "")}}, 10, 9),
	} {
		if e := hold(t, d.bytes()); e != api.ErrSyntax {
			t.Errorf("%d: %d", i, e)
		}
		last := len(d.blocks) - 1
		d.blocks[last] = bent(d.blocks[last])
		if e := hold(t, d.bytes()); e != api.ErrSum {
			t.Errorf("%d, with a wrong checksum: %d", i, e)
		}
	}
}

// TestP1302EveryDistribution divides entries in all ways.
func TestP1302EveryDistribution(t *testing.T) {
	for _, l := range [][]api.Entry{few(), rising(8), {put("a", 1, ""), put("b", 1, text(30)), put("c", 1, text(9)), put("d", 1, text(40)), put("e", 1, ""), put("f", 1, "v")}} {
		right := 0
		for which := range 1 << (len(l) - 1) {
			parts := [][]api.Entry{{l[0]}}
			for i, e := range l[1:] {
				if which>>i&1 == 1 {
					parts = append(parts, nil)
				}
				parts[len(parts)-1] = append(parts[len(parts)-1], e)
			}
			for _, every := range []int{1, 9} {
				if hold(t, drafted(parts, 10, every).bytes()) == api.OK {
					right++
				}
			}
		}
		if right < 10 || right > 40 {
			t.Errorf("%d distributions of %d entries are right", right, len(l))
		}
	}
}

// TestP1302OneIntervalForAllBlocks gives blocks of several lengths all intervals.
func TestP1302OneIntervalForAllBlocks(t *testing.T) {
	var l []api.Entry
	for i := range 7 {
		l = append(l, put(string([]byte{'a', byte(i)}), 1, ""))
	}
	// The last block may have fewer entries than the others, which count the same.
	parts := chapterParts(l, 30)
	if len(parts) != 3 || len(parts[2]) != 1 {
		t.Fatal("not the parts")
	}
	uneven := [][]api.Entry{l[:2], {l[2], put("b", 1, text(20))}, {put("c", 1, ""), put("d", 1, ""), put("e", 1, "")}}
	for _, parts := range [][][]api.Entry{parts, uneven, {l[:4], l[4:]}} {
		right := 0
		for a := 1; a <= 4; a++ {
			for b := 1; b <= 4; b++ {
				for c := 1; c <= 4; c++ {
					if hold(t, drafted(parts, 10, a, b, c).bytes()) == api.OK {
						right++
					}
				}
			}
		}
		if right == 0 || right == 64 {
			t.Errorf("%d of 64 are right", right)
		}
	}
}

// TestP1302IntervalsOfManyEntries has blocks that no interval makes with one restart point.
func TestP1302IntervalsOfManyEntries(t *testing.T) {
	var l []api.Entry
	for i := range 225 {
		l = append(l, put(string([]byte{'a', byte(i)}), 1, ""))
	}
	parts := [][]api.Entry{l[:110], l[110:220], l[220:]}
	for _, every := range []int{1, 5, 6, 99, 100} {
		d := drafted(parts, 10, every)
		if e := Check(d.bytes()); e != api.OK {
			t.Errorf("by %d: %d", every, e)
		}
		d = drafted(parts, 10, every, every, 4)
		if e := Check(d.bytes()); e != api.ErrSyntax {
			t.Errorf("by %d and 4: %d", every, e)
		}
		d = drafted(parts, 10, every, 7, every)
		if e := Check(d.bytes()); e != api.ErrSyntax {
			t.Errorf("by %d and 7: %d", every, e)
		}
	}
	// By 100 and 99 the last block is the same, but not the two others.
	if e := Check(drafted(parts, 10, 100, 100, 99).bytes()); e != api.OK {
		t.Errorf("by 100, 100, 99: %d", e)
	}
	if e := Check(drafted(parts, 10, 100, 99, 99).bytes()); e != api.ErrSyntax {
		t.Errorf("by 100, 99, 99: %d", e)
	}
}

// TestP1302Filters puts all lengths of filters together with all last bytes.
func TestP1302Filters(t *testing.T) {
	for _, n := range []int{1, 2, 7, 30} {
		l := rising(n)
		parts := [][]api.Entry{l}
		right := 0
		for a := 1; a <= 41; a++ {
			for b := 1; b <= 41; b++ {
				d := drafted(parts, a, 1)
				last := drafted(parts, b, 1).filter
				d.filter[len(d.filter)-1] = last[len(last)-1]
				if hold(t, d.bytes()) == api.OK {
					right++
				}
			}
		}
		if right < 41 || right > 140 {
			t.Errorf("%d filters of %d entries are right", right, n)
		}
	}
	l := few()
	var every, once [][]byte
	for i, e := range l {
		every = append(every, e.Key.Key)
		if i == 0 || !bytes.Equal(l[i-1].Key.Key, e.Key.Key) {
			once = append(once, e.Key.Key)
		}
	}
	d := drafted([][]api.Entry{l}, 20, 1)
	for i, x := range []struct {
		filter []byte
		want   api.Errno
	}{
		{bloom.Build(once, 20), api.OK}, {bloom.Build(every, 20), api.ErrSyntax}, {bloom.Build(once[1:], 20), api.ErrSyntax},
		{bloom.Build(append(slices.Clone(once), []byte("other")), 20), api.ErrSyntax}, {bloom.Build(nil, 20), api.ErrSyntax}, {nil, api.ErrSyntax},
		{[]byte{13}, api.ErrSyntax}, {bloom.Build(once, 20)[1:], api.ErrSyntax}, {append(bloom.Build(once, 20), 13), api.ErrSyntax}, {bloom.Build(once, 39), api.OK},
	} {
		d.filter = x.filter
		if e := hold(t, d.bytes()); e != x.want {
			t.Errorf("filter %d: %d, want %d", i, e, x.want)
		}
	}
}

func TestP1302IndexEntries(t *testing.T) {
	parts := chapterParts(few(), 20)
	first := len(built(parts[0], 2))
	long := binary.AppendUvarint(nil, uint64(first))
	for i, value := range [][]byte{
		nil, {0}, {128}, {0, 128}, {0, 0}, {0, 7}, {0, 8}, {1, byte(first)}, {0, byte(first), 0}, {0, byte(first), byte(first)}, {128, 0, byte(first)},
		{0, byte(first) | 128, 0}, {0, byte(first) | 128}, place(0, first+1), place(0, first-1), place(first, first), place(1<<40, 5), place(0, 1<<40),
		cat([]byte{0}, binary.AppendUvarint(nil, math.MaxUint64)), cat(binary.AppendUvarint(nil, math.MaxUint64), long), cat(binary.AppendUvarint(nil, 1<<63), binary.AppendUvarint(nil, 1<<63)),
		cat(binary.AppendUvarint(nil, 1<<32), long), cat([]byte{0}, binary.AppendUvarint(nil, uint64(first)+1<<32)), {0, 255, 255, 255, 255, 255, 255, 255, 255, 255, 2},
	} {
		for k := range parts {
			d := drafted(parts, 10, 2)
			if bytes.Equal(d.index[k].Value, value) {
				continue
			}
			d.index[k].Value = value
			want := api.ErrSyntax
			if k == 0 && (bytes.Equal(value, place(0, 8)) || bytes.Equal(value, place(0, first+1)) || bytes.Equal(value, place(0, first-1))) {
				want = api.ErrSum
			}
			if e := hold(t, d.bytes()); e != want {
				t.Errorf("Value %d of entry %d: %d, want %d", i, k, e, want)
			}
		}
	}
	for k := range parts {
		d := drafted(parts, 10, 2)
		d.index[k].Key.Kind, d.index[k].Value = api.Delete, nil
		if hold(t, d.bytes()) != api.ErrSyntax {
			t.Errorf("entry %d is a Delete", k)
		}
		for _, x := range []int{-1, 1} {
			d = drafted(parts, 10, 2)
			d.index[k].Key.Seq += uint64(x)
			if hold(t, d.bytes()) != api.ErrSyntax {
				t.Errorf("Seq of entry %d: %d more", k, x)
			}
		}
		// The first key of the block, and one without the last byte.
		d = drafted(parts, 10, 2)
		d.index[k].Key = api.IKey{Key: parts[k][0].Key.Key, Seq: parts[k][0].Key.Seq, Kind: 1}
		if e := hold(t, d.bytes()); (e == api.OK) != (len(parts[k]) == 1) {
			t.Errorf("entry %d has the first key of its block: %d", k, e)
		}
		d = drafted(parts, 10, 2)
		d.index = slices.Delete(d.index, k, k+1)
		if hold(t, d.bytes()) != api.ErrSyntax {
			t.Errorf("entry %d is missing", k)
		}
	}
	d := drafted(parts, 10, 2)
	d.index = append(d.index, put("z", 1, string(d.index[0].Value)))
	if hold(t, d.bytes()) != api.ErrSyntax {
		t.Error("an entry for the first block again")
	}
}

// TestP1302BlocksReachNoFurtherThanTheIndex has a length up to where the index begins,
// and beyond it.
func TestP1302BlocksReachNoFurtherThanTheIndex(t *testing.T) {
	d := drafted([][]api.Entry{few()}, 10, 2)
	data, filter := len(d.blocks[0]), len(d.filter)
	for more, want := range map[int]api.Errno{
		1: api.ErrSum, filter: api.ErrSum, filter + 1: api.ErrSyntax, filter + 20: api.ErrSyntax, 1 << 20: api.ErrSyntax,
	} {
		d.index[0].Value = place(0, data+more)
		if e := hold(t, d.bytes()); e != want {
			t.Errorf("a length of %d more: %d, want %d", more, e, want)
		}
	}
	// A block, right by itself, ends behind where the filter begins.
	d = drafted([][]api.Entry{few()}, 10, 2)
	for _, at := range []int{0, 1, data - 1} {
		d.numbers = func(l []int) []int { return []int{at, l[2] - at, l[2], l[3], l[4]} }
		if e := hold(t, d.bytes()); e != api.ErrSyntax {
			t.Errorf("the filter begins at %d: %d", at, e)
		}
	}
}

func TestP1302NoEntries(t *testing.T) {
	none := draft{filter: bloom.Build(nil, 10)}
	if hold(t, none.bytes()) != api.ErrSyntax {
		t.Error("a table of nothing")
	}
	// Blocks without entries.
	empty := built(nil, 1)
	for _, k := range []api.Entry{put("a", 1, ""), put("a", 0, ""), put("\x00", api.MaxSeq, "")} {
		d := drafted([][]api.Entry{{put("b", 1, "")}}, 10, 1)
		d.blocks = [][]byte{empty, d.blocks[0]}
		d.index[0].Value = place(8, len(d.blocks[1]))
		k.Value = place(0, 8)
		d.index = []api.Entry{k, d.index[0]}
		if hold(t, d.bytes()) != api.ErrSyntax {
			t.Error("an empty block at first")
		}
		d = draft{blocks: [][]byte{empty}, index: []api.Entry{k}, filter: bloom.Build(nil, 10)}
		if hold(t, d.bytes()) != api.ErrSyntax {
			t.Error("only an empty block")
		}
	}
}

// TestP1302GreatestSize has blocks that reach the greatest size with their last entry,
// and with the one ahead of it.
func TestP1302GreatestSize(t *testing.T) {
	l := heavy(262)
	for more, want := range map[int]api.Errno{575: api.OK, 576: api.ErrSyntax, 577: api.ErrSyntax} {
		all := append(slices.Clone(l), put("i", 1, text(more-9)), put("j", 1, ""))
		if e := Check(drafted([][]api.Entry{all}, 10, 16).bytes()); e != want {
			t.Errorf("one block, %d ahead of its last entry: %d, want %d", 1048000+more, e, want)
		}
		if e := Check(drafted([][]api.Entry{all[:263], all[263:]}, 10, 16).bytes()); e != api.OK {
			t.Errorf("two blocks: %d", e)
		}
	}
}

// TestP1302MoreEntriesThanATableHas divides them among blocks that are right.
func TestP1302MoreEntriesThanATableHas(t *testing.T) {
	l := rising(30000)
	for _, x := range []struct {
		parts [][]api.Entry
		want  api.Errno
	}{
		{[][]api.Entry{l[:5000], l[5000:10000]}, api.OK}, {[][]api.Entry{l[:5000], l[5000:10001]}, api.ErrSyntax},
		{[][]api.Entry{l[:10000]}, api.OK}, {[][]api.Entry{l[:10000], l[10000:10001]}, api.ErrSyntax},
		{[][]api.Entry{l[:10000], l[10000:20000], l[20000:]}, api.ErrSyntax}, {[][]api.Entry{l[:1], l[1:10001], l[10001:20000]}, api.ErrSyntax},
	} {
		var d draft
		at := 0
		for _, part := range x.parts {
			b := built(part, 100)
			k := part[len(part)-1].Key
			d.blocks = append(d.blocks, b)
			d.index = append(d.index, api.Entry{Key: api.IKey{Key: k.Key, Seq: k.Seq, Kind: 1}, Value: place(at, len(b))})
			at += len(b)
			d.count += len(part)
		}
		d.filter = bloom.Build(userKeysOf(x.parts), 10)
		if got, e := All(d.bytes()); e != x.want || (e == api.OK) != (len(got) == d.count) {
			t.Errorf("%d entries in %d blocks: %d, %d, want %d", d.count, len(d.blocks), len(got), e, x.want)
		}
		last := len(d.blocks) - 1
		d.blocks[last] = bent(d.blocks[last])
		if e := Check(d.bytes()); e != api.ErrSum {
			t.Errorf("%d entries in %d blocks, with a wrong checksum: %d", d.count, len(d.blocks), e)
		}
	}
}

func userKeysOf(parts [][]api.Entry) [][]byte {
	var keys [][]byte
	for _, e := range slices.Concat(parts...) {
		keys = append(keys, e.Key.Key)
	}
	return slices.CompactFunc(keys, bytes.Equal)
}

func TestP1302GetAtAndBesideEachKey(t *testing.T) {
	l := []api.Entry{put("a", 7, "seven"), del("a", 6), put("a", 5, ""), put("a\x00", 9, "x"), put("aa", api.MaxSeq, ""), del("b", 0), put(text(256), 3, "y")}
	var asked []request
	for _, k := range []string{"", "\x00", "`", "a", "a\x00", "a\x00\x00", "aa", "b", "b\x00", "c", text(255), text(256), text(257), "\xff"} {
		for _, seq := range []uint64{0, 1, 2, 3, 4, 5, 6, 7, 8, 9, api.MaxSeq - 1, api.MaxSeq, api.MaxSeq + 1, math.MaxUint64} {
			asked = append(asked, request{k, seq})
		}
	}
	for n := 1; n <= len(l); n++ {
		for _, size := range []int{1, 12, 30, 1000} {
			if hold(t, build(t, l[:n], size, 2, 10), asked...) != api.OK {
				t.Errorf("Check of %d by %d", n, size)
			}
		}
	}
}

// drawn is up to n entries in order, without two of one user key and Seq.
func drawn(r *rand.Rand, n int) []api.Entry {
	var l []api.Entry
	for range 1 + r.Intn(n) {
		k := make([]byte, 1+r.Intn(3)*r.Intn(40))
		for i := range k {
			k[i] = "aaaab\x00\xff"[r.Intn(7)]
		}
		e := api.Entry{Key: api.IKey{Key: k, Seq: uint64(r.Intn(4)), Kind: r.Intn(2)}}
		if e.Key.Kind == api.Put {
			e.Value = make([]byte, r.Intn(1+r.Intn(100)))
			r.Read(e.Value)
		}
		l = append(l, e)
	}
	sort.Slice(l, func(i, j int) bool { return order(l[i].Key, l[j].Key) < 0 })
	return slices.CompactFunc(l, func(a, b api.Entry) bool {
		return bytes.Equal(a.Key.Key, b.Key.Key) && a.Key.Seq == b.Key.Seq
	})
}

func TestP1303RoundTrip(t *testing.T) {
	r := rand.New(rand.NewSource(13))
	for range 400 {
		l := drawn(r, 1+r.Intn(150))
		size, every, bits := 1+r.Intn(1+r.Intn(3000)), 1+r.Intn(1+r.Intn(110)), 1+r.Intn(42)
		b := build(t, l, size, every, bits)
		got, e := All(b)
		if e != api.OK || !same(got, l) {
			t.Fatalf("All of %d by %d: %d entries, %d", len(l), size, len(got), e)
		}
		again, e := Build(got, size, every, bits)
		if e != api.OK || !bytes.Equal(again, b) {
			t.Fatalf("Build of what All returned: %x, %d, want %x", again, e, b)
		}
	}
}

// TestP1302DrawnTables puts drawn blocks together, which mostly are no table.
func TestP1302DrawnTables(t *testing.T) {
	r := rand.New(rand.NewSource(1302))
	right := 0
	for range 3000 {
		l := drawn(r, 9)
		var parts [][]api.Entry
		for len(l) > 0 {
			n := 1 + r.Intn(len(l))
			parts = append(parts, l[:n])
			l = l[n:]
		}
		d := drafted(parts, 1+r.Intn(40), 1+r.Intn(3), 1+r.Intn(3))
		for range r.Intn(3) {
			i := r.Intn(len(parts))
			flaws := append(append(indexFlaws(), otherFlaws()...), blockFlaws(i)...)
			// Only what leaves the index a block again.
			if x := flaws[r.Intn(len(flaws))]; !strings.HasPrefix(x.name, "an index key") && x.name != "no filter" {
				x.put(&d)
			}
		}
		if hold(t, d.bytes()) == api.OK {
			right++
		}
	}
	if right == 0 || right > 2000 {
		t.Errorf("%d of 3000 are right", right)
	}
}

// wide is b with spare capacity that has content.
func wide(b []byte) []byte {
	return append(bytes.Clone(b), "spare"...)[:len(b)]
}

func TestP1303ArgumentsStay(t *testing.T) {
	l := few()
	given := make([]api.Entry, 0, 8)
	for _, e := range l {
		given = append(given, api.Entry{Key: api.IKey{Key: wide(e.Key.Key), Seq: e.Key.Seq, Kind: e.Key.Kind}, Value: wide(e.Value)})
	}
	given[:8][7] = put("spare", 1, "spare")
	b, _ := Build(given, 20, 2, 10)
	kept := bytes.Clone(b)
	if !same(given, l) || !sameEntry(given[:8][7], put("spare", 1, "spare")) {
		t.Error("Build changed the entries")
	}
	for _, e := range given {
		if string(e.Key.Key[:cap(e.Key.Key)][len(e.Key.Key):][:5]) != "spare" || string(e.Value[:cap(e.Value)][len(e.Value):][:5]) != "spare" {
			t.Error("Build changed spare capacity")
		}
		clear(e.Key.Key)
		clear(e.Value)
	}
	if !bytes.Equal(b, kept) {
		t.Error("Build kept an entry")
	}
	table, key := wide(b), wide([]byte("b"))
	all, _ := All(table)
	index, _ := Index(table)
	found, _, _ := Get(table, []byte("d"), 9)
	Get(table, key, 9)
	if !bytes.Equal(table, b) || string(table[:len(b)+5][len(b):]) != "spare" || string(key[:6]) != "bspare" {
		t.Error("an argument was changed")
	}
	wanted, _ := Index(b)
	clear(table[:len(b)+5])
	if !same(all, l) || !same(index, wanted) || !sameEntry(found, l[6]) {
		t.Errorf("results share bytes with the table: %v, %v, %v", all, index, found)
	}
}

func TestP1303ResultsAreSeparate(t *testing.T) {
	l := few()
	b := build(t, l, 20, 2, 10)
	wanted, _ := Index(b)
	all, _ := All(b)
	again, _ := All(b)
	index, _ := Index(b)
	first, _, _ := Get(b, []byte("aa"), 9)
	second, _, _ := Get(b, []byte("aa"), 9)
	spoil := func(got, want []api.Entry) {
		for i := range got {
			got[i].Key.Key = append(got[i].Key.Key, "yyyyyyyy"...)
			got[i].Value = append(got[i].Value, "zzzzzzzz"...)
			clear(got[i].Key.Key)
			clear(got[i].Value)
			if !same(got[i+1:], want[i+1:]) {
				t.Errorf("entry %d shares bytes with one behind it", i)
			}
		}
	}
	spoil(all, l)
	spoil(index, wanted)
	clear(first.Key.Key)
	clear(first.Value)
	if !same(again, l) || !sameEntry(second, l[0]) {
		t.Error("two results share bytes")
	}
	other, _ := Build(l, 20, 2, 10)
	clear(other)
	if hold(t, b, request{"aa", 9}) != api.OK {
		t.Error("a result is kept")
	}
}
