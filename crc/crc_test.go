package crc

import (
	"bytes"
	"hash/crc32"
	"math"
	"slices"
	"testing"
)

// words are all with one bit, their neighbours and complements, and a walk
// through the whole range.
func words() []uint32 {
	l := []uint32{0, 0xE3069283, 0xa282ead8, 0x5d7d1528, 0x82F63B78, math.MaxInt32, math.MaxUint32}
	for shift := range 32 {
		x := uint32(1) << shift
		l = append(l, x-1, x, x+1, ^x)
	}
	x := uint32(1)
	for range 10000 {
		x = x*1664525 + 1013904223
		l = append(l, x)
	}
	return l
}

// texts are lists of bytes of several lengths and kinds.
func texts() [][]byte {
	l := [][]byte{nil, {}}
	for c := range 256 {
		l = append(l, []byte{byte(c)}, []byte{0, byte(c)}, []byte{byte(c), 255, byte(c)})
	}
	var b []byte
	for n := range 600 {
		b = append(b, byte(n*n*31+n/7))
		l = append(l, slices.Clone(b), bytes.Repeat([]byte{0}, n), bytes.Repeat([]byte{255}, n))
	}
	return l
}

// otherTables are lists of 256 elements that are not Table().
func otherTables() [][]uint32 {
	var count, mixed []uint32
	for n := range 256 {
		count = append(count, uint32(n))
		mixed = append(mixed, uint32(n*n)*2654435761+uint32(n))
	}
	reversed := Table()
	slices.Reverse(reversed)
	changed := Table()
	changed[255] ^= 1
	return [][]uint32{
		make([]uint32, 256), slices.Repeat([]uint32{math.MaxUint32}, 256),
		count, mixed, reversed, changed, crc32.MakeTable(crc32.IEEE)[:],
	}
}

// chapterSum follows the words of the chapter, by arithmetic where they allow it.
func chapterSum(t []uint32, b []byte) uint32 {
	register := uint32(0xFFFFFFFF)
	for _, c := range b {
		index := register%256 ^ uint32(c)
		register = register/256 ^ t[index]
	}
	return 0xFFFFFFFF - register
}

func wantSum(t *testing.T, table []uint32, b []byte, want uint32) {
	t.Helper()
	if got := Sum(table, b); got != want {
		t.Errorf("Sum of %v with a table of %d = %#x, want %#x", b, len(table), got, want)
	}
}

func TestP301TableFollowsTheChapter(t *testing.T) {
	table := Table()
	if len(table) != 256 {
		t.Fatalf("Table has %d elements", len(table))
	}
	for n, got := range table {
		want := uint64(n)
		for range 8 {
			if want%2 == 1 {
				want = want/2 ^ 0x82F63B78
			} else {
				want /= 2
			}
		}
		if uint64(got) != want {
			t.Errorf("entry %d = %#x, want %#x", n, got, want)
		}
	}
}

func TestP301TableExamples(t *testing.T) {
	table := Table()
	for n, want := range map[int]uint32{0: 0, 1: 0xF26B8303, 2: 0xE13B70F7, 128: 0x82F63B78, 255: 0xAD7D5351} {
		if table[n] != want {
			t.Errorf("entry %d = %#x, want %#x", n, table[n], want)
		}
	}
}

func TestP301TableAgreesWithTheLibrary(t *testing.T) {
	if want := crc32.MakeTable(crc32.Castagnoli)[:]; !slices.Equal(Table(), want) {
		t.Error("Table is not that of hash/crc32")
	}
}

func TestP301SumExamples(t *testing.T) {
	var up, down []byte
	for n := range 32 {
		up = append(up, byte(n))
		down = append(down, byte(31-n))
	}
	for _, x := range []struct {
		b    []byte
		want uint32
	}{
		{nil, 0},
		{[]byte{}, 0},
		{[]byte{0}, 0x527D5351},
		{[]byte{255}, 0xFF000000},
		{[]byte("a"), 0xC1D04330},
		{[]byte("123456789"), 0xE3069283},
		// The examples of RFC 3720, B.4.
		{make([]byte, 32), 0x8A9136AA},
		{bytes.Repeat([]byte{255}, 32), 0x62A8AB43},
		{up, 0x46DD794E},
		{down, 0x113FDB5C},
	} {
		wantSum(t, Table(), x.b, x.want)
		wantSum(t, nil, x.b, x.want)
	}
}

func TestP301SumAgreesWithTheLibrary(t *testing.T) {
	table := Table()
	library := crc32.MakeTable(crc32.Castagnoli)
	for _, b := range texts() {
		wantSum(t, table, b, crc32.Checksum(b, library))
	}
}

func TestP301SumUsesTheTableItIsGiven(t *testing.T) {
	for i, table := range otherTables() {
		for _, b := range texts() {
			if got, want := Sum(table, b), chapterSum(table, b); got != want {
				t.Errorf("Sum of %v with table %d = %#x, want %#x", b, i, got, want)
			}
		}
	}
	zero := make([]uint32, 256)
	wantSum(t, zero, nil, 0)
	wantSum(t, zero, []byte{1}, 0xFF000000)
	wantSum(t, zero, []byte{1, 2, 3, 4}, 0xFFFFFFFF)
	wantSum(t, zero, []byte{1, 2, 3, 4, 5}, 0xFFFFFFFF)
}

func TestP301SumReplacesATableOfAnotherLength(t *testing.T) {
	library := crc32.MakeTable(crc32.Castagnoli)
	long := slices.Repeat([]uint32{7}, 1024)
	tables := [][]uint32{nil, {}, Table()[:255], append(Table(), 0)}
	for _, n := range []int{0, 1, 2, 8, 16, 128, 254, 255, 257, 258, 511, 512, 1024} {
		// The first has more elements behind its length, the second has none.
		tables = append(tables, long[:n], slices.Clip(long[:n]))
	}
	for _, table := range tables {
		for _, b := range [][]byte{nil, {0}, {255}, []byte("123456789"), bytes.Repeat([]byte{5, 200}, 300)} {
			wantSum(t, table, b, crc32.Checksum(b, library))
		}
	}
	wantSum(t, long[:256], []byte{1}, chapterSum(long, []byte{1}))
}

func TestP301SumDoesNotReadBeyondTheLength(t *testing.T) {
	b := []byte("123456789 and more")
	wantSum(t, Table(), b[:9], 0xE3069283)
	wantSum(t, Table(), b[:0], 0)
}

func TestP301MaskFollowsTheChapter(t *testing.T) {
	for _, x := range words() {
		rotated := uint64(x)/(1<<15) + uint64(x)%(1<<15)*(1<<17)
		want := uint32((rotated + 0xa282ead8) % (1 << 32))
		if got := Mask(x); got != want {
			t.Errorf("Mask(%#x) = %#x, want %#x", x, got, want)
		}
	}
	for x, want := range map[uint32]uint32{
		0:          0xa282ead8,
		1:          0xa284ead8,
		1 << 15:    0xa282ead9,
		0xFFFFFFFF: 0xa282ead7,
		0xE3069283: 0xC78AB0E5,
		0x8A942EBE: 0, // the sum just exceeds 32 bits
	} {
		if got := Mask(x); got != want {
			t.Errorf("Mask(%#x) = %#x, want %#x", x, got, want)
		}
	}
}

func TestP301UnmaskIsTheInverseOfMask(t *testing.T) {
	for _, x := range words() {
		if got := Unmask(Mask(x)); got != x {
			t.Errorf("Unmask(Mask(%#x)) = %#x", x, got)
		}
		if got := Mask(Unmask(x)); got != x {
			t.Errorf("Mask(Unmask(%#x)) = %#x", x, got)
		}
	}
	for x, want := range map[uint32]uint32{0xa282ead8: 0, 0: 0x8A942EBE, 0xC78AB0E5: 0xE3069283} {
		if got := Unmask(x); got != want {
			t.Errorf("Unmask(%#x) = %#x, want %#x", x, got, want)
		}
	}
}

func TestP302ArgumentsStay(t *testing.T) {
	for _, n := range []int{0, 255, 256, 257} {
		wholeTable := slices.Repeat([]uint32{3, 1 << 31}, 200)
		whole := slices.Repeat([]byte{9, 250}, 20)
		tableBefore, before := slices.Clone(wholeTable), slices.Clone(whole)
		Sum(wholeTable[:n], whole[:7])
		if !slices.Equal(wholeTable, tableBefore) {
			t.Errorf("the table of %d changed", n)
		}
		if !bytes.Equal(whole, before) {
			t.Errorf("the bytes changed to %v", whole)
		}
	}
}

func TestP302ArgumentsAreNotKept(t *testing.T) {
	table := Table()
	b := []byte("123456789")
	wantSum(t, table, b, 0xE3069283)
	clear(table)
	b[0] = '9'
	wantSum(t, nil, []byte("123456789"), 0xE3069283)
	wantSum(t, Table(), []byte("123456789"), 0xE3069283)
	wantSum(t, table, []byte{1, 2, 3, 4}, 0xFFFFFFFF)
	wantSum(t, make([]uint32, 255), b, crc32.Checksum(b, crc32.MakeTable(crc32.Castagnoli)))
}

func TestP302TableIsNewEachTime(t *testing.T) {
	first, second := Table(), Table()
	want := slices.Clone(first)
	clear(first)
	first = append(first[:0], second[1:]...)
	if !slices.Equal(second, want) || !slices.Equal(Table(), want) {
		t.Error("a change of one table changes another")
	}
	wantSum(t, nil, []byte("123456789"), 0xE3069283)
}

func TestP302ResultsRepeat(t *testing.T) {
	table := otherTables()[3]
	b := []byte("some bytes")
	sum, own := Sum(table, b), Sum(nil, b)
	for _, x := range words()[:50] {
		masked, unmasked := Mask(x), Unmask(x)
		if Sum(table, b) != sum || Sum(nil, b) != own {
			t.Fatal("Sum does not repeat")
		}
		if Mask(x) != masked || Unmask(x) != unmasked {
			t.Fatalf("Mask or Unmask of %#x does not repeat", x)
		}
	}
}
