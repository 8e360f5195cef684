package varint

import (
	"bytes"
	"encoding/binary"
	"math"
	"math/big"
	"slices"
	"testing"

	"buttery/api"
)

// numbers are those around every change of an encoding's length, and a few more.
func numbers() []uint64 {
	l := []uint64{0, 1, 2, 3, 100, 300, 0x0123456789abcdef, 0xfedcba9876543210, math.MaxUint64 - 1, math.MaxUint64}
	for shift := range 64 {
		x := uint64(1) << shift
		l = append(l, x-1, x, x+1)
	}
	return l
}

func integers() []int {
	l := []int{math.MinInt, math.MinInt + 1, math.MaxInt - 1, math.MaxInt}
	for x := -300; x <= 300; x++ {
		l = append(l, x)
	}
	for shift := range 63 {
		x := 1 << shift
		l = append(l, x-1, x, x+1, -x-1, -x, -x+1)
	}
	return l
}

// full is n bytes that each say that more follow.
func full(n int) []byte { return bytes.Repeat([]byte{255}, n) }

func wantGet(t *testing.T, b []byte, at int, x uint64, next int, e api.Errno) {
	t.Helper()
	if gotX, gotNext, gotE := Get(b, at); gotX != x || gotNext != next || gotE != e {
		t.Errorf("Get(%v, %d) = %d, %d, %d, want %d, %d, %d", b, at, gotX, gotNext, gotE, x, next, e)
	}
}

func wantGetInt(t *testing.T, b []byte, at int, x int, next int, e api.Errno) {
	t.Helper()
	if gotX, gotNext, gotE := GetInt(b, at); gotX != x || gotNext != next || gotE != e {
		t.Errorf("GetInt(%v, %d) = %d, %d, %d, want %d, %d, %d", b, at, gotX, gotNext, gotE, x, next, e)
	}
}

func TestP201PutExamples(t *testing.T) {
	for _, x := range []struct {
		x    uint64
		want []byte
	}{
		{0, []byte{0}},
		{1, []byte{1}},
		{127, []byte{127}},
		{128, []byte{128, 1}},
		{129, []byte{129, 1}},
		{255, []byte{255, 1}},
		{300, []byte{172, 2}},
		{1<<14 - 1, []byte{255, 127}},
		{1 << 14, []byte{128, 128, 1}},
		{1<<63 - 1, append(full(8), 127)},
		{1 << 63, []byte{128, 128, 128, 128, 128, 128, 128, 128, 128, 1}},
		{math.MaxUint64, append(full(9), 1)},
	} {
		if got := Put(nil, x.x); !bytes.Equal(got, x.want) {
			t.Errorf("Put(nil, %d) = %v, want %v", x.x, got, x.want)
		}
	}
}

func TestP201PutAgreesWithTheLibraryAfterAnyBytes(t *testing.T) {
	for _, before := range [][]byte{nil, {}, {0}, {128}, {1, 2, 3}, full(20)} {
		for _, x := range numbers() {
			want := binary.AppendUvarint(slices.Clone(before), x)
			if got := Put(before, x); !bytes.Equal(got, want) {
				t.Errorf("Put(%v, %d) = %v, want %v", before, x, got, want)
			}
		}
	}
}

func TestP201PutIsAsShortAsPossible(t *testing.T) {
	for _, x := range numbers() {
		got := Put(nil, x)
		if n := len(got); n > 1 && x>>(7*(n-1)) == 0 {
			t.Errorf("Put(nil, %d) has %d bytes", x, n)
		}
	}
}

func TestP201GetReadsWhatPutWrote(t *testing.T) {
	for _, before := range [][]byte{nil, {0}, {128, 128}, full(20)} {
		for _, x := range numbers() {
			b := Put(before, x)
			wantGet(t, b, len(before), x, len(b), api.OK)
			for _, after := range [][]byte{{0}, {1}, {128}, full(20)} {
				wantGet(t, slices.Concat(b, after), len(before), x, len(b), api.OK)
			}
		}
	}
}

func TestP201GetReadsOneAfterAnother(t *testing.T) {
	var b []byte
	for _, x := range numbers() {
		b = Put(b, x)
	}
	at := 0
	for _, x := range numbers() {
		got, next, e := Get(b, at)
		if got != x || next != at+len(Put(nil, x)) || e != api.OK {
			t.Fatalf("Get at %d = %d, %d, %d, want %d", at, got, next, e, x)
		}
		at = next
	}
	wantGet(t, b, at, 0, 0, api.ErrShort)
}

func TestP201GetRefusesIndexOutside(t *testing.T) {
	// The bytes would be refused as well: the index is examined first.
	for _, b := range [][]byte{nil, {}, {1}, {128}, {128, 0}, full(30)} {
		for _, at := range []int{math.MinInt, -2, -1, len(b) + 1, len(b) + 2, math.MaxInt} {
			wantGet(t, b, at, 0, 0, api.ErrArg)
			wantGetInt(t, b, at, 0, 0, api.ErrArg)
		}
		wantGet(t, b, len(b), 0, 0, api.ErrShort)
		wantGetInt(t, b, len(b), 0, 0, api.ErrShort)
	}
}

func TestP201GetDoesNotReadBeyondTheLength(t *testing.T) {
	b := []byte{128, 1, 5}
	wantGet(t, b[:1], 0, 0, 0, api.ErrShort)
	wantGet(t, b[:1], 2, 0, 0, api.ErrArg)
	wantGet(t, b[:2], 2, 0, 0, api.ErrShort)
}

func TestP201GetRefusesEveryPartOfANumber(t *testing.T) {
	for _, x := range numbers() {
		b := Put([]byte{7}, x)
		for n := 1; n < len(b); n++ {
			wantGet(t, b[:n], 1, 0, 0, api.ErrShort)
			wantGetInt(t, b[:n], 1, 0, 0, api.ErrShort)
		}
	}
	for n := range 10 {
		wantGet(t, full(n), 0, 0, 0, api.ErrShort)
		wantGet(t, bytes.Repeat([]byte{128}, n), 0, 0, 0, api.ErrShort)
	}
}

func TestP201GetRefusesALastByteOfZero(t *testing.T) {
	wantGet(t, []byte{0}, 0, 0, 1, api.OK)
	wantGet(t, []byte{0, 0}, 0, 0, 1, api.OK)
	wantGet(t, []byte{128, 0, 0}, 1, 0, 2, api.OK)
	for n := 1; n <= 9; n++ {
		for _, c := range []byte{128, 129, 255} {
			b := append(bytes.Repeat([]byte{c}, n), 0)
			wantGet(t, b, 0, 0, 0, api.ErrSyntax)
			wantGet(t, append(b, 1), 0, 0, 0, api.ErrSyntax)
			wantGetInt(t, b, 0, 0, 0, api.ErrSyntax)
		}
	}
}

func TestP201GetRefusesAGreatTenthByte(t *testing.T) {
	for c := range 256 {
		for _, head := range [][]byte{full(9), bytes.Repeat([]byte{128}, 9)} {
			if c == 1 {
				continue
			}
			b := append(head, byte(c))
			for _, after := range [][]byte{nil, {0}, {1}, {128}, full(5)} {
				wantGet(t, slices.Concat(b, after), 0, 0, 0, api.ErrSyntax)
				wantGetInt(t, slices.Concat(b, after), 0, 0, 0, api.ErrSyntax)
			}
		}
	}
	wantGet(t, append(full(9), 1), 0, math.MaxUint64, 10, api.OK)
	wantGet(t, append(bytes.Repeat([]byte{128}, 9), 1), 0, 1<<63, 10, api.OK)
	// Only the tenth byte of the number counts, not that of b.
	wantGet(t, append(full(9), 1, 2), 1, 1<<57-1, 10, api.OK)
}

// TestP201GetOfAllShortLists takes every list of up to three bytes out of those
// that differ for the decoder, and holds Get against the words of the chapter.
func TestP201GetOfAllShortLists(t *testing.T) {
	choice := []byte{0, 1, 2, 127, 128, 129, 255}
	lists := [][]byte{nil}
	for i := 0; i < len(lists); i++ {
		b := lists[i]
		x, next, e := chapterGet(b)
		wantGet(t, b, 0, x, next, e)
		if len(b) < 3 {
			for _, c := range choice {
				lists = append(lists, append(slices.Clone(b), c))
			}
		}
	}
}

// chapterGet decodes b, of less than ten bytes, from its beginning.
func chapterGet(b []byte) (uint64, int, api.Errno) {
	end := slices.IndexFunc(b, func(c byte) bool { return c < 128 })
	if end < 0 {
		return 0, 0, api.ErrShort
	}
	if end > 0 && b[end] == 0 {
		return 0, 0, api.ErrSyntax
	}
	var x, unit uint64 = 0, 1
	for _, c := range b[:end+1] {
		x += uint64(c) % 128 * unit
		unit *= 128
	}
	return x, end + 1, api.OK
}

func TestP201PutIntIsPutOfTheFoldedNumber(t *testing.T) {
	for _, x := range integers() {
		for _, before := range [][]byte{nil, {9, 128}} {
			if got, want := PutInt(before, x), Put(before, chapterFold(x)); !bytes.Equal(got, want) {
				t.Errorf("PutInt(%v, %d) = %v, want %v", before, x, got, want)
			}
		}
	}
	for x, want := range map[int]byte{0: 0, -1: 1, 1: 2, -2: 3, 2: 4, 63: 126, -64: 127} {
		if got := PutInt(nil, x); !bytes.Equal(got, []byte{want}) {
			t.Errorf("PutInt(nil, %d) = %v, want %d", x, got, want)
		}
	}
}

// chapterFold works out 2x or -2(x+1)+1 in exact integers.
func chapterFold(x int) uint64 {
	y := big.NewInt(int64(x))
	if x >= 0 {
		return y.Mul(y, big.NewInt(2)).Uint64()
	}
	y.Add(y, big.NewInt(1))
	y.Mul(y, big.NewInt(-2))
	return y.Add(y, big.NewInt(1)).Uint64()
}

func TestP201GetIntReadsWhatPutIntWrote(t *testing.T) {
	for _, x := range integers() {
		for _, before := range [][]byte{nil, {9, 128}} {
			b := PutInt(before, x)
			wantGetInt(t, b, len(before), x, len(b), api.OK)
			wantGetInt(t, append(b, 0, 255), len(before), x, len(b), api.OK)
		}
	}
}

func TestP202ArgumentsStay(t *testing.T) {
	for _, x := range []uint64{0, 127, 128, 300, 1 << 40, math.MaxUint64} {
		whole := full(40)
		before := slices.Clone(whole)
		b := whole[:3] // with spare capacity that would hold the number
		Put(b, x)
		PutInt(b, int(x))
		Get(b, 0)
		GetInt(whole, 1)
		if !bytes.Equal(whole, before) {
			t.Errorf("%d: the argument changed to %v", x, whole)
		}
	}
}

func TestP202ResultsAreNewAndRepeat(t *testing.T) {
	b := make([]byte, 3, 40)
	first, firstInt := Put(b, 300), PutInt(b, 150)
	for range 3 {
		if got := Put(b, 300); !bytes.Equal(got, first) {
			t.Errorf("Put = %v, then %v", first, got)
		}
	}
	b[0] = 1
	Put(b, 5)
	again := append(Put(b, 6), 7)
	again[1] = 8
	want := []byte{0, 0, 0, 172, 2}
	if !bytes.Equal(first, want) || !bytes.Equal(firstInt, want) {
		t.Errorf("results share memory: %v, %v", first, firstInt)
	}
	first[0] = 9
	if b[0] != 1 || firstInt[0] != 0 {
		t.Error("a result shares memory with an argument or another result")
	}
}
