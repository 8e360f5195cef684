package frame

import (
	"bytes"
	"encoding/binary"
	"hash/crc32"
	"math"
	"math/rand"
	"slices"
	"testing"

	"buttery/api"
)

// fragment follows the chapter's words; the length it tells need not be right.
func fragment(kind byte, data []byte, count int) []byte {
	x := crc32.Checksum(append([]byte{kind}, data...), crc32.MakeTable(crc32.Castagnoli))
	out := binary.LittleEndian.AppendUint32(nil, (x>>15|x<<17)+0xa282ead8)
	out = binary.LittleEndian.AppendUint16(out, uint16(count))
	return append(append(out, kind), data...)
}

func piece(kind byte, data []byte) []byte { return fragment(kind, data, len(data)) }

func zeros(n int) []byte { return make([]byte, n) }

func cat(l ...[]byte) []byte { return slices.Concat(l...) }

// text is n bytes, each unlike those around it, zeros among them.
func text(n int) []byte {
	b := make([]byte, n)
	for i := range b {
		b[i] = byte(i*7 + i/256)
	}
	return b
}

// chapterPut lays a record into the log byte by byte: a fragment is closed where
// its block is full.
func chapterPut(size int, record []byte) []byte {
	at := max(size, 0) % 128
	var out []byte
	if at > 121 {
		out, at = zeros(128-at), 0
	}
	var parts [][]byte
	part := []byte{}
	for _, c := range record {
		if at+7+len(part) == 128 {
			parts, part, at = append(parts, part), []byte{}, 0
		}
		part = append(part, c)
	}
	parts = append(parts, part)
	for i, part := range parts {
		kind := byte(3)
		switch {
		case len(parts) == 1:
			kind = 1
		case i == 0:
			kind = 2
		case i == len(parts)-1:
			kind = 4
		}
		out = append(out, piece(kind, part)...)
	}
	return out
}

// chapterAll asks the chapter's cases one after another at each position.
func chapterAll(b []byte) ([][]byte, int, int) {
	var records [][]byte
	var record []byte
	open, done := false, 0
	for at := 0; ; {
		left := 128 - at%128
		if left < 7 && at < len(b) {
			stop := min(at+left, len(b))
			if !bytes.Equal(b[at:stop], zeros(stop-at)) {
				return records, done, 2
			}
			at = stop
			continue
		}
		if at == len(b) && open {
			return records, done, 1
		}
		if at == len(b) {
			return records, done, 0
		}
		if len(b)-at < 7 {
			return records, done, 1
		}
		n := 7 + int(b[at+4]) + 256*int(b[at+5])
		if n > left {
			return records, done, 2
		}
		if n > len(b)-at {
			return records, done, 1
		}
		kind, data := b[at+6], b[at+7:at+n]
		if !bytes.Equal(b[at:at+n], piece(kind, data)) || kind < 1 || kind > 4 || open != (kind > 2) {
			return records, done, 2
		}
		at += n
		record = slices.Concat(record, data)
		open = kind == 2 || kind == 3
		if !open {
			records, record, done = append(records, record), nil, at
		}
	}
}

// logOf is a log of records, and where it ended before the first of them and after each.
func logOf(records ...[]byte) ([]byte, []int) {
	var log []byte
	ends := []int{0}
	for _, r := range records {
		log = append(log, Put(len(log), r)...)
		ends = append(ends, len(log))
	}
	return log, ends
}

// toNext is the padding between the end of a record and the next one.
func toNext(at int) []byte {
	if left := 128 - at%128; left < 7 {
		return zeros(left)
	}
	return nil
}

func sameRecords(a, b [][]byte) bool { return slices.EqualFunc(a, b, bytes.Equal) }

func wantPut(t *testing.T, size int, record, want []byte) {
	t.Helper()
	if got := Put(size, record); !bytes.Equal(got, want) {
		t.Errorf("Put(%d, %d bytes) = %x, want %x", size, len(record), got, want)
	}
}

func wantAll(t *testing.T, what string, b []byte, n, class int, want ...[]byte) {
	t.Helper()
	got, m, c := All(b)
	if !sameRecords(got, want) || m != n || c != class {
		t.Errorf("%s: All(%x) = %x, %d, %d, want %x, %d, %d", what, b, got, m, c, want, n, class)
	}
}

func wantAsChapter(t *testing.T, what string, b []byte) int {
	t.Helper()
	want, n, class := chapterAll(b)
	wantAll(t, what, b, n, class, want...)
	return class
}

// lengths are those of records around what one, two and three blocks hold.
func lengths() []int {
	l := []int{0, 1, 2, 3, 6, 7, 8, 60, 1000, 5000}
	for _, n := range []int{114, 121, 128, 235, 242, 256, 363} {
		l = append(l, n-1, n, n+1)
	}
	return l
}

func TestP701TheBytesOfFragments(t *testing.T) {
	empty := []byte{0x05, 0x2b, 0x28, 0x43, 0, 0, 1}
	wantPut(t, 0, nil, empty)
	wantPut(t, 0, []byte{}, empty)
	wantPut(t, 125, nil, cat([]byte{0, 0, 0}, empty))
	wantPut(t, 0, []byte("ab"), []byte{0xa4, 0x98, 0x44, 0x82, 2, 0, 1, 'a', 'b'})
	wantPut(t, 120, []byte{0, 255}, []byte{0x20, 0x97, 0xfc, 0x30, 1, 0, 2, 0, 0x04, 0x10, 0x41, 0x2d, 1, 0, 4, 255})
}

func TestP701RecordsOfOneFragment(t *testing.T) {
	for n := range 122 {
		record := text(n)
		wantPut(t, 0, record, piece(1, record))
		wantPut(t, 121-n, record, piece(1, record))
		wantPut(t, 128*5+121-n, record, piece(1, record))
	}
}

func TestP701RecordsOfMoreFragments(t *testing.T) {
	s := text(1000)
	for _, x := range []struct {
		size, n int
		want    []byte
	}{
		{0, 122, cat(piece(2, s[:121]), piece(4, s[121:122]))},
		{0, 242, cat(piece(2, s[:121]), piece(4, s[121:242]))},
		{0, 243, cat(piece(2, s[:121]), piece(3, s[121:242]), piece(4, s[242:243]))},
		{0, 363, cat(piece(2, s[:121]), piece(3, s[121:242]), piece(4, s[242:363]))},
		{0, 364, cat(piece(2, s[:121]), piece(3, s[121:242]), piece(3, s[242:363]), piece(4, s[363:364]))},
		{100, 21, piece(1, s[:21])},
		{100, 22, cat(piece(2, s[:21]), piece(4, s[21:22]))},
		{100, 142, cat(piece(2, s[:21]), piece(4, s[21:142]))},
		{100, 143, cat(piece(2, s[:21]), piece(3, s[21:142]), piece(4, s[142:143]))},
		{120, 1, piece(1, s[:1])},
		{120, 2, cat(piece(2, s[:1]), piece(4, s[1:2]))},
	} {
		wantPut(t, x.size, s[:x.n], x.want)
	}
}

func TestP701ABlockWithRoomForAHeaderOnly(t *testing.T) {
	s := text(300)
	for _, size := range []int{121, 128 + 121, 1<<20 + 121} {
		wantPut(t, size, nil, piece(1, nil))
		wantPut(t, size, s[:1], cat(piece(2, nil), piece(4, s[:1])))
		wantPut(t, size, s[:121], cat(piece(2, nil), piece(4, s[:121])))
		wantPut(t, size, s[:122], cat(piece(2, nil), piece(3, s[:121]), piece(4, s[121:122])))
	}
}

func TestP701ABlockWithoutRoomForAHeader(t *testing.T) {
	s := text(300)
	for left := 1; left <= 6; left++ {
		for _, size := range []int{128 - left, 128*9 - left} {
			wantPut(t, size, nil, cat(zeros(left), piece(1, nil)))
			wantPut(t, size, s[:121], cat(zeros(left), piece(1, s[:121])))
			wantPut(t, size, s[:122], cat(zeros(left), piece(2, s[:121]), piece(4, s[121:122])))
		}
	}
	wantPut(t, 128, s[:5], piece(1, s[:5]))
}

func TestP701NothingFollowsTheLastFragment(t *testing.T) {
	for n := 115; n <= 121; n++ {
		wantPut(t, 0, text(n), piece(1, text(n)))
	}
	for n := 115 + 121; n <= 242; n++ {
		wantPut(t, 0, text(n), cat(piece(2, text(n)[:121]), piece(4, text(n)[121:])))
	}
}

func TestP701SizesOfAnyNumber(t *testing.T) {
	for _, n := range lengths() {
		record := text(n)
		for _, size := range []int{-1, -6, -7, -121, -127, -128, -129, math.MinInt, math.MinInt + 1, math.MinInt32} {
			wantPut(t, size, record, chapterPut(0, record))
		}
		for _, size := range []int{math.MaxInt, math.MaxInt - 6, math.MaxInt - 7, math.MaxInt - 127, math.MaxInt32, 1 << 31, 1<<32 + 121, 1<<62 + 125} {
			wantPut(t, size, record, chapterPut(size%128, record))
		}
	}
}

func TestP701EverySizeAndManyLengths(t *testing.T) {
	for size := range 260 {
		for _, n := range lengths() {
			record := text(n)
			wantPut(t, size, record, chapterPut(size, record))
		}
	}
	for n := range 600 {
		wantPut(t, n*n, text(n), chapterPut(n*n, text(n)))
	}
	long := text(1 << 20)
	wantPut(t, 77, long, chapterPut(77, long))
}

func TestP701RecordsOfAnyBytes(t *testing.T) {
	for c := range 256 {
		for _, n := range []int{1, 50, 121, 122, 400} {
			record := bytes.Repeat([]byte{byte(c)}, n)
			wantPut(t, c, record, chapterPut(c, record))
		}
	}
}

func TestP702TheEmptyLogIsClean(t *testing.T) {
	wantAll(t, "nil", nil, 0, api.EndClean)
	wantAll(t, "empty", []byte{}, 0, api.EndClean)
}

func TestP702AllReadsWhatPutWrote(t *testing.T) {
	for _, n := range lengths() {
		for _, m := range lengths() {
			records := [][]byte{text(n), text(m), nil, text(n), text(m)}
			log, _ := logOf(records...)
			wantAll(t, "log", log, len(log), api.EndClean, records...)
		}
	}
	long := [][]byte{text(1 << 18), nil, text(3), text(1 << 17)}
	log, _ := logOf(long...)
	wantAll(t, "long records", log, len(log), api.EndClean, long...)
	log, _ = logOf(make([][]byte, 5000)...)
	wantAll(t, "empty records", log, len(log), api.EndClean, make([][]byte, 5000)...)
}

func TestP702LogsCutAnywhere(t *testing.T) {
	for _, x := range lengths() {
		if x > 1000 {
			continue
		}
		records := [][]byte{text(x), text(115), text(3), nil, text(x), text(90)}
		log, ends := logOf(records...)
		k := 0
		for n := range len(log) + 1 {
			for k < len(records) && ends[k+1] <= n {
				k++
			}
			class := api.EndTorn
			if n <= ends[k]+len(toNext(ends[k])) {
				class = api.EndClean
			}
			wantAll(t, "cut log", log[:n], ends[k], class, records[:k]...)
		}
	}
}

// filled is a log of one record that leaves so many bytes of its block.
func filled(left int) ([]byte, []byte) {
	record := text(121 - left)
	return piece(1, record), record
}

func TestP702PaddingIsSkipped(t *testing.T) {
	for left := 1; left <= 6; left++ {
		log, record := filled(left)
		for n := range left + 1 {
			wantAll(t, "padding", cat(log, zeros(n)), len(log), api.EndClean, record)
		}
		more := cat(log, zeros(left), piece(1, []byte("a")))
		wantAll(t, "padding and more", more, len(more), api.EndClean, record, []byte("a"))
		more = cat(log, zeros(left), zeros(1))
		wantAll(t, "padding and a byte", more, len(log), api.EndTorn, record)
		more = cat(log, zeros(left), zeros(7))
		wantAll(t, "padding and a header", more, len(log), api.EndBad, record)
	}
}

func TestP702PaddingThatIsNotZero(t *testing.T) {
	for left := 1; left <= 6; left++ {
		log, record := filled(left)
		for n := 1; n <= left; n++ {
			for i := range n {
				for _, c := range []byte{1, '0', 128, 255} {
					padding := zeros(n)
					padding[i] = c
					wantAll(t, "padding", cat(log, padding), len(log), api.EndBad, record)
					if n == left {
						wantAll(t, "padding and more", cat(log, padding, piece(1, nil)), len(log), api.EndBad, record)
					}
				}
			}
		}
	}
	// Zeros, where a fragment would fit, are no padding.
	log, record := filled(7)
	wantAll(t, "zeros", cat(log, zeros(7)), len(log), api.EndBad, record)
	wantAll(t, "zeros", cat(log, zeros(6)), len(log), api.EndTorn, record)
	wantAll(t, "zeros", zeros(128), 0, api.EndBad)
}

func TestP702PaddingWithinARecord(t *testing.T) {
	for left := 1; left <= 6; left++ {
		data := text(121 - left)
		for n := range left + 1 {
			wantAll(t, "first and padding", cat(piece(2, data), zeros(n)), 0, api.EndTorn)
		}
		b := cat(piece(2, data), zeros(left), piece(4, []byte("x")))
		wantAll(t, "first, padding, last", b, len(b), api.EndClean, append(data, 'x'))
		b = cat(piece(2, data), bytes.Repeat([]byte{9}, left), piece(4, []byte("x")))
		wantAll(t, "first, other bytes, last", b, 0, api.EndBad)
		b = cat(piece(2, data), zeros(left), piece(1, []byte("x")))
		wantAll(t, "first, padding, complete", b, 0, api.EndBad)
	}
}

func TestP702TheEndIsTornWithinARecord(t *testing.T) {
	whole := piece(1, []byte("ab"))
	a, b := piece(2, []byte("c")), piece(3, []byte("d"))
	wantAll(t, "first", cat(whole, a), 9, api.EndTorn, []byte("ab"))
	wantAll(t, "first and middle", cat(whole, a, b), 9, api.EndTorn, []byte("ab"))
	wantAll(t, "first without data", piece(2, nil), 0, api.EndTorn)
	wantAll(t, "first and middles", cat(a, b, b, b), 0, api.EndTorn)
	wantAll(t, "a whole block", piece(2, text(121)), 0, api.EndTorn)
}

func TestP702TooFewBytesForAHeader(t *testing.T) {
	for n := 1; n < 7; n++ {
		for _, c := range []byte{0, 1, 255} {
			b := bytes.Repeat([]byte{c}, n)
			wantAll(t, "alone", b, 0, api.EndTorn)
			wantAll(t, "behind a record", cat(piece(1, []byte("ab")), b), 9, api.EndTorn, []byte("ab"))
			wantAll(t, "behind a block", cat(piece(1, text(121)), b), 128, api.EndTorn, text(121))
			wantAll(t, "within a record", cat(piece(2, []byte("ab")), b), 0, api.EndTorn)
		}
	}
	// All of the log that the block leaves for a header is there, or it isn't.
	log, record := filled(7)
	wantAll(t, "at the edge", cat(log, piece(1, nil)[:6]), len(log), api.EndTorn, record)
	wantAll(t, "at the edge", cat(log, piece(1, nil)), 128, api.EndClean, record, nil)
}

func TestP702LongerThanTheBlock(t *testing.T) {
	for n := range 115 {
		log, record := piece(1, text(n)), text(n)
		fits := 114 - n
		b := cat(log, piece(1, text(fits)))
		wantAll(t, "fits", b, 128, api.EndClean, record, text(fits))
		b = cat(log, piece(1, text(fits+1)), zeros(300))
		wantAll(t, "one byte more", b, len(log), api.EndBad, record)
	}
	wantAll(t, "fits", piece(1, text(121)), 128, api.EndClean, text(121))
	wantAll(t, "one byte more", piece(1, text(122)), 0, api.EndBad)
	for _, count := range []int{122, 128, 255, 256, 257, 256 + 121, 512, 32768, 65535} {
		wantAll(t, "long", fragment(1, text(count), count), 0, api.EndBad)
		wantAll(t, "not all there", fragment(1, nil, count), 0, api.EndBad)
		wantAll(t, "within a record", cat(piece(2, nil), fragment(4, nil, count)), 0, api.EndBad)
	}
}

func TestP702LongerThanTheLog(t *testing.T) {
	for count := 1; count <= 121; count++ {
		whole := piece(1, text(count))
		for n := 7; n < len(whole); n++ {
			wantAll(t, "cut", whole[:n], 0, api.EndTorn)
		}
	}
	for kind := range 256 {
		wantAll(t, "cut, of any kind", fragment(byte(kind), nil, 1), 0, api.EndTorn)
		wantAll(t, "cut, of any kind, within a record", cat(piece(2, nil), fragment(byte(kind), nil, 1)), 0, api.EndTorn)
	}
	bent := fragment(1, []byte("ab"), 3)
	bent[0] ^= 1
	wantAll(t, "cut and damaged", bent, 0, api.EndTorn)
	bent = fragment(1, []byte("ab"), 122)
	bent[0] ^= 1
	wantAll(t, "too long and damaged", bent, 0, api.EndBad)
}

func TestP702TheChecksum(t *testing.T) {
	for _, data := range [][]byte{nil, []byte("a"), text(50), text(121)} {
		for bit := range 32 {
			b := piece(1, data)
			b[bit/8] ^= 1 << (bit % 8)
			wantAll(t, "bit of the checksum", b, 0, api.EndBad)
		}
		for bit := range 8 * len(data) {
			b := piece(1, data)
			b[7+bit/8] ^= 1 << (bit % 8)
			wantAll(t, "bit of the data", b, 0, api.EndBad)
		}
		// A changed type is one of those that would fit.
		b := piece(1, data)
		b[6] = 2
		wantAll(t, "type", b, 0, api.EndBad)
		b = piece(2, data)
		b[6] = 1
		wantAll(t, "type", b, 0, api.EndBad)
	}
	b := fragment(1, []byte("abc"), 2)
	wantAll(t, "shorter than its checksum", b, 0, api.EndBad)
}

func TestP702TheChecksumIsMaskedAndLittleEndian(t *testing.T) {
	x := crc32.Checksum([]byte{1, 'a'}, crc32.MakeTable(crc32.Castagnoli))
	tail := []byte{1, 0, 1, 'a'}
	masked := (x>>15 | x<<17) + 0xa282ead8
	wantAll(t, "right", cat(binary.LittleEndian.AppendUint32(nil, masked), tail), 8, api.EndClean, []byte("a"))
	wantAll(t, "big endian", cat(binary.BigEndian.AppendUint32(nil, masked), tail), 0, api.EndBad)
	wantAll(t, "not masked", cat(binary.LittleEndian.AppendUint32(nil, x), tail), 0, api.EndBad)
	wantAll(t, "none", cat(zeros(4), tail), 0, api.EndBad)
}

func TestP702TypesThatAreNone(t *testing.T) {
	for kind := range 256 {
		if kind >= 1 && kind <= 4 {
			continue
		}
		b := piece(byte(kind), []byte("a"))
		wantAll(t, "alone", b, 0, api.EndBad)
		wantAll(t, "behind a record", cat(piece(1, []byte("b")), b), 8, api.EndBad, []byte("b"))
		wantAll(t, "within a record", cat(piece(2, nil), b, piece(4, nil)), 0, api.EndBad)
		wantAll(t, "without data", piece(byte(kind), nil), 0, api.EndBad)
	}
}

// TestP702EveryRowOfTypes holds all rows of up to five fragments with the types 0
// to 5 against the types that fit.
func TestP702EveryRowOfTypes(t *testing.T) {
	for row := range 6 * 6 * 6 * 6 * 6 {
		var b []byte
		for i, x := 0, row; i < 5; i, x = i+1, x/6 {
			b = append(b, piece(byte(x%6), []byte{byte('a' + i)})...)
		}
		for n := 0; n <= len(b); n += 8 {
			wantAsChapter(t, "row", b[:n])
		}
	}
	a, b, c := []byte("a"), []byte("b"), []byte("c")
	for _, x := range []struct {
		kinds    string
		n, class int
		want     [][]byte
	}{
		{"\x03", 0, api.EndBad, nil},
		{"\x04", 0, api.EndBad, nil},
		{"\x01\x03", 8, api.EndBad, [][]byte{a}},
		{"\x01\x04", 8, api.EndBad, [][]byte{a}},
		{"\x02\x01", 0, api.EndBad, nil},
		{"\x02\x02", 0, api.EndBad, nil},
		{"\x02\x03\x01", 0, api.EndBad, nil},
		{"\x02\x03\x02", 0, api.EndBad, nil},
		{"\x02\x04\x03", 16, api.EndBad, [][]byte{cat(a, b)}},
		{"\x02\x04\x04", 16, api.EndBad, [][]byte{cat(a, b)}},
		{"\x02\x04\x01", 24, api.EndClean, [][]byte{cat(a, b), c}},
		{"\x02\x04\x02", 16, api.EndTorn, [][]byte{cat(a, b)}},
		{"\x01\x02\x04", 24, api.EndClean, [][]byte{a, cat(b, c)}},
		{"\x02\x03\x04", 24, api.EndClean, [][]byte{cat(a, b, c)}},
	} {
		var log []byte
		for i, kind := range []byte(x.kinds) {
			log = append(log, piece(kind, []byte{byte('a' + i)})...)
		}
		wantAll(t, "row", log, x.n, x.class, x.want...)
	}
}

func TestP702FragmentsThatPutWouldNotWrite(t *testing.T) {
	s := text(400)
	b := cat(piece(2, nil), piece(3, nil), piece(3, s[:3]), piece(3, nil), piece(4, nil))
	wantAll(t, "short ones", b, len(b), api.EndClean, s[:3])
	b = cat(piece(2, nil), piece(4, nil))
	wantAll(t, "without data", b, len(b), api.EndClean, nil)
	b = cat(piece(2, s[:50]), piece(4, s[50:107]), piece(1, nil))
	wantAll(t, "three in a block", b, len(b), api.EndClean, s[:107], nil)
}

func TestP702WhatPrecedesAnErrorRemains(t *testing.T) {
	records := [][]byte{text(200), nil, text(10), text(129)}
	log, ends := logOf(records...)
	for k := range ends {
		whole := log[:ends[k]]
		for _, rest := range [][]byte{piece(4, []byte("z")), piece(9, nil), fragment(1, nil, 500), cat(piece(1, []byte("z"))[:7], []byte("y"))} {
			bad := cat(whole, toNext(len(whole)), rest)
			wantAll(t, "bad", bad, ends[k], api.EndBad, records[:k]...)
			wantAll(t, "bad, and more", cat(bad, piece(1, nil)), ends[k], api.EndBad, records[:k]...)
		}
	}
}

func TestP702EveryBitOfALog(t *testing.T) {
	log, _ := logOf(text(100), text(8), text(140), nil, text(250), text(4))
	classes := map[int]int{}
	for bit := range 8 * len(log) {
		b := bytes.Clone(log)
		b[bit/8] ^= 1 << (bit % 8)
		classes[wantAsChapter(t, "bit", b)]++
	}
	if classes[api.EndBad] == 0 || classes[api.EndTorn] == 0 || classes[api.EndClean] != 0 {
		t.Errorf("classes are %v", classes)
	}
}

// randomLog is fragments of all kinds and lengths; some are damaged, some are
// where they may not be.
func randomLog(r *rand.Rand) []byte {
	var log []byte
	open := false
	for range r.Intn(12) {
		left := 128 - len(log)%128
		if left < 7 {
			log = append(log, zeros(left)...)
			left = 128
			if r.Intn(20) == 0 {
				log[len(log)-1-r.Intn(2)] = 3
			}
		}
		kind := byte(1 + r.Intn(2))
		if open {
			kind += 2
		}
		if r.Intn(25) == 0 {
			kind = byte(r.Intn(6))
		}
		n := left - 7
		if r.Intn(2) == 0 {
			n = r.Intn(n + 1)
		}
		if r.Intn(40) == 0 {
			n++
		}
		log = append(log, piece(kind, text(n))...)
		open = kind == 2 || kind == 3
	}
	if len(log) > 0 && r.Intn(6) == 0 {
		log[r.Intn(len(log))] ^= 1 << r.Intn(8)
	}
	if r.Intn(4) == 0 {
		log = log[:r.Intn(len(log)+1)]
	}
	return log
}

func TestP702LogsOfManyKinds(t *testing.T) {
	r := rand.New(rand.NewSource(7))
	classes := map[int]int{}
	for range 40000 {
		classes[wantAsChapter(t, "random log", randomLog(r))]++
	}
	for class := range 3 {
		if classes[class] < 4000 {
			t.Errorf("class %d in %d logs only", class, classes[class])
		}
	}
}

func TestP702BytesThatAreNoLog(t *testing.T) {
	r := rand.New(rand.NewSource(8))
	for n := range 3000 {
		b := make([]byte, n%400)
		r.Read(b)
		if n%3 == 0 && len(b) > 5 {
			b[4], b[5] = byte(r.Intn(128)), 0
		}
		wantAsChapter(t, "random bytes", b)
	}
}

func TestP702AllDoesNotReadBeyondTheLength(t *testing.T) {
	b := cat(piece(1, []byte("ab")), piece(2, []byte("c")), piece(4, []byte("d")))
	wantAll(t, "nothing", b[:0], 0, api.EndClean)
	wantAll(t, "one record", b[:9], 9, api.EndClean, []byte("ab"))
	wantAll(t, "a part of a header", b[:12], 9, api.EndTorn, []byte("ab"))
	wantAll(t, "a header", b[:16], 9, api.EndTorn, []byte("ab"))
	wantAll(t, "a first fragment", b[:17], 9, api.EndTorn, []byte("ab"))
}

func TestP703ArgumentsStay(t *testing.T) {
	for _, n := range []int{0, 1, 100, 121, 122, 400} {
		whole := bytes.Repeat([]byte{9, 250}, 300)
		before := bytes.Clone(whole)
		Put(0, whole[:n])
		Put(125, whole[:n])
		if !bytes.Equal(whole, before) {
			t.Fatalf("Put of %d bytes changes what it is given", n)
		}
	}
	log, _ := logOf(text(10), text(300), nil, text(5))
	for _, tail := range [][]byte{nil, piece(2, []byte("a")), piece(9, nil)} {
		whole := cat(log, tail, bytes.Repeat([]byte{7}, 500))
		before := bytes.Clone(whole)
		for n := range len(log) + len(tail) + 1 {
			All(whole[:n])
		}
		if !bytes.Equal(whole, before) {
			t.Fatal("All changes what it is given")
		}
	}
}

func TestP703ResultsShareNothingWithArguments(t *testing.T) {
	for _, n := range []int{1, 100, 121, 122, 400} {
		record := text(n)
		out := Put(0, record)
		before := bytes.Clone(out)
		clear(record)
		if !bytes.Equal(out, before) {
			t.Errorf("Put of %d bytes shares them", n)
		}
	}
	records := [][]byte{text(10), text(121), text(300), nil, text(5)}
	log, _ := logOf(records...)
	got, _, _ := All(log)
	clear(log)
	if !sameRecords(got, records) {
		t.Error("records are those of the log")
	}
	log, _ = logOf(records...)
	before := bytes.Clone(log)
	for _, r := range got {
		clear(r[:cap(r)])
	}
	if !bytes.Equal(log, before) {
		t.Error("the log is that of the records")
	}
}

func TestP703RecordsAreSeparate(t *testing.T) {
	records := [][]byte{text(10), nil, text(121), text(300), text(122), nil, text(5), text(243)}
	log, _ := logOf(records...)
	for i := range records {
		got, _, _ := All(log)
		part := got[i][:cap(got[i])]
		for k := range part {
			part[k] ^= 255
		}
		got[i] = records[i]
		if !sameRecords(got, records) {
			t.Errorf("a change of record %d, or behind it, changes others", i)
		}
	}
}

func TestP703ResultsAreNewAndRepeat(t *testing.T) {
	records := [][]byte{text(10), nil, text(300)}
	log, _ := logOf(records...)
	for range 3 {
		got, n, class := All(log)
		if !sameRecords(got, records) || n != len(log) || class != api.EndClean {
			t.Fatalf("All = %x, %d, %d", got, n, class)
		}
		for i, r := range got {
			clear(r)
			got[i] = nil
		}
	}
	for range 3 {
		out := Put(125, records[2])
		if want := chapterPut(125, records[2]); !bytes.Equal(out, want) {
			t.Fatalf("Put = %x, want %x", out, want)
		}
		clear(out[:cap(out)])
	}
}
