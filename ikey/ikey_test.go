package ikey

import (
	"bytes"
	"encoding/binary"
	"math"
	"slices"
	"strings"
	"testing"

	"buttery/api"
)

func key(s string, seq uint64, kind int) api.IKey {
	return api.IKey{Key: []byte(s), Seq: seq, Kind: kind}
}

func same(a, b api.IKey) bool {
	return bytes.Equal(a.Key, b.Key) && a.Seq == b.Seq && a.Kind == b.Kind
}

func texts() []string {
	return []string{
		"a", "b", "aa", "ab", "a\x00", "\x00", "\x00\x00", "\x01", "\x7f", "\x80", "\xff", "\xff\xff",
		"eight by", "nine byte", "user/0001", strings.Repeat("k", 100),
		strings.Repeat("\x00", 255), strings.Repeat("\xff", 255),
		strings.Repeat("\x00", 256), strings.Repeat("\xff", 256), strings.Repeat("a", 255) + "b",
	}
}

func badTexts() []string {
	return []string{"", strings.Repeat("a", 257), strings.Repeat("\x00", 257), strings.Repeat("a", 512), strings.Repeat("a", 1<<16)}
}

// seqs are those around every change of a byte, within the limit of 56 bits.
func seqs() []uint64 {
	l := []uint64{0, 0x01020304050607, 0xfedcba98765432, 1<<56 - 2, 1<<56 - 1}
	for shift := range 56 {
		x := uint64(1) << shift
		l = append(l, x-1, x, x+1)
	}
	return l
}

func badSeqs() []uint64 {
	return []uint64{1 << 56, 1<<56 + 1, 1 << 57, 1 << 63, 1<<63 - 1, math.MaxUint64 - 1, math.MaxUint64}
}

// badKinds has some that are known ones in their lowest byte.
func badKinds() []int {
	return []int{math.MinInt, -257, -256, -255, -2, -1, 2, 3, 127, 128, 255, 256, 257, 1 << 32, 1<<32 + 1, math.MaxInt}
}

func validKeys() []api.IKey {
	var l []api.IKey
	for _, s := range texts() {
		for _, seq := range seqs() {
			l = append(l, key(s, seq, api.Delete), key(s, seq, api.Put))
		}
	}
	return l
}

// invalidKeys are wrong in one way each, and then in several at once.
func invalidKeys() []api.IKey {
	var l []api.IKey
	for _, s := range badTexts() {
		l = append(l, key(s, 0, api.Delete), key(s, 7, api.Put), key(s, api.MaxSeq, api.Put))
	}
	for _, seq := range badSeqs() {
		l = append(l, key("a", seq, api.Delete), key("a", seq, api.Put))
	}
	for _, kind := range badKinds() {
		l = append(l, key("a", 0, kind), key("a", 7, kind), key("a", api.MaxSeq, kind))
	}
	return append(l, api.IKey{Seq: 1, Kind: api.Put}, api.IKey{}, key("", 1<<56, 2), key("a", 1<<56, 2), key("", 7, -1))
}

// tailOf is Seq * 256 + Kind, by the library.
func tailOf(x uint64) []byte { return binary.LittleEndian.AppendUint64(nil, x) }

func wantError(t *testing.T, b []byte, want api.Errno) {
	t.Helper()
	if k, e := Read(b); e != want || k.Key != nil || k.Seq != 0 || k.Kind != 0 {
		t.Errorf("Read of %d bytes (%v ..) = %v, %d, want %d", len(b), b[:min(len(b), 20)], k, e, want)
	}
}

func TestP401RightTakesAllWithinTheLimits(t *testing.T) {
	for _, k := range validKeys() {
		if !Right(k) {
			t.Errorf("Right refuses %v", k)
		}
	}
}

func TestP401RightRefusesAllOthers(t *testing.T) {
	for _, k := range invalidKeys() {
		if Right(k) {
			t.Errorf("Right takes a key of %d bytes, Seq %d, Kind %d", len(k.Key), k.Seq, k.Kind)
		}
	}
}

func TestP401RightCountsTheBytesOfAKey(t *testing.T) {
	whole := make([]byte, 600)
	for n := range whole {
		want := 1 <= n && n <= 256
		if got := Right(api.IKey{Key: whole[:n], Seq: 1, Kind: api.Put}); got != want {
			t.Errorf("Right with %d bytes = %v", n, got)
		}
	}
}

func TestP401BytesExamples(t *testing.T) {
	for _, x := range []struct {
		k    api.IKey
		want []byte
	}{
		{key("a", 0, api.Delete), []byte{'a', 0, 0, 0, 0, 0, 0, 0, 0}},
		{key("a", 0, api.Put), []byte{'a', 1, 0, 0, 0, 0, 0, 0, 0}},
		{key("a", 1, api.Delete), []byte{'a', 0, 1, 0, 0, 0, 0, 0, 0}},
		{key("ab", 255, api.Put), []byte{'a', 'b', 1, 255, 0, 0, 0, 0, 0, 0}},
		{key("ab", 256, api.Put), []byte{'a', 'b', 1, 0, 1, 0, 0, 0, 0, 0}},
		{key("\x00", 0x01020304050607, api.Delete), []byte{0, 0, 7, 6, 5, 4, 3, 2, 1}},
		{key("\xff", 1<<56-1, api.Put), []byte{255, 1, 255, 255, 255, 255, 255, 255, 255}},
	} {
		if got := Bytes(x.k); !bytes.Equal(got, x.want) {
			t.Errorf("Bytes(%v) = %v, want %v", x.k, got, x.want)
		}
	}
}

func TestP401BytesIsTheKeyAndANumber(t *testing.T) {
	for _, k := range validKeys() {
		want := slices.Concat(k.Key, tailOf(k.Seq*256+uint64(k.Kind)))
		if got := Bytes(k); !bytes.Equal(got, want) {
			t.Errorf("Bytes(%v) = %v, want %v", k, got, want)
		}
	}
}

func TestP401BytesOfInvalidIsEmpty(t *testing.T) {
	for _, k := range invalidKeys() {
		if got := Bytes(k); len(got) != 0 {
			t.Errorf("Bytes of a key of %d bytes, Seq %d, Kind %d has %d bytes", len(k.Key), k.Seq, k.Kind, len(got))
		}
	}
}

func TestP401ReadReadsWhatBytesWrote(t *testing.T) {
	for _, k := range validKeys() {
		if got, e := Read(Bytes(k)); !same(got, k) || e != api.OK {
			t.Errorf("Read(Bytes(%v)) = %v, %d", k, got, e)
		}
	}
}

func TestP401ReadRefusesWhatIsTooShort(t *testing.T) {
	// None of them has a Kind that is known as well: the length is examined first.
	whole := bytes.Repeat([]byte{2}, 20)
	wantError(t, nil, api.ErrShort)
	for n := range 9 {
		wantError(t, whole[:n], api.ErrShort)
		wantError(t, slices.Clip(whole[:n]), api.ErrShort)
		wantError(t, make([]byte, n, 300), api.ErrShort)
	}
	wantError(t, whole[:9], api.ErrSyntax)
	if k, e := Read(make([]byte, 9)); !same(k, key("\x00", 0, api.Delete)) || e != api.OK {
		t.Errorf("Read of 9 bytes = %v, %d", k, e)
	}
}

func TestP401ReadTakesKeysUpToTheLimit(t *testing.T) {
	tail := tailOf(7*256 + api.Put)
	for n := 1; n <= 600; n++ {
		text := bytes.Repeat([]byte{byte(n)}, n)
		b := slices.Concat(text, tail)
		if n > 256 {
			wantError(t, b, api.ErrSyntax)
		} else if k, e := Read(b); !same(k, key(string(text), 7, api.Put)) || e != api.OK {
			t.Errorf("Read of a key of %d bytes = %v, %d", n, k, e)
		}
	}
	wantError(t, make([]byte, 1<<20), api.ErrSyntax)
}

func TestP401ReadRefusesUnknownKinds(t *testing.T) {
	for kind := range 256 {
		for _, seq := range []uint64{0, 1, 255, 1<<56 - 1} {
			b := slices.Concat([]byte("key"), tailOf(seq*256+uint64(kind)))
			if kind > 1 {
				wantError(t, b, api.ErrSyntax)
			} else if k, e := Read(b); !same(k, key("key", seq, kind)) || e != api.OK {
				t.Errorf("Read(%v) = %v, %d", b, k, e)
			}
		}
	}
}

// TestP401ReadIsTheInverseOfBytes takes bytes of every length that differ in all
// places: what Read takes of them is what Bytes encodes again.
func TestP401ReadIsTheInverseOfBytes(t *testing.T) {
	x := uint32(1)
	taken := 0
	for n := range 300 {
		for kind := range byte(4) {
			b := make([]byte, n)
			for i := range b {
				x = x*1664525 + 1013904223
				b[i] = byte(x >> 24)
			}
			if n >= 8 {
				b[n-8] = kind
			}
			k, e := Read(b)
			if e != api.OK {
				continue
			}
			taken++
			if got := Bytes(k); !Right(k) || !bytes.Equal(got, b) {
				t.Errorf("Read(%v) = %v, which Bytes encodes as %v", b, k, got)
			}
		}
	}
	if want := 256 * 2; taken != want {
		t.Errorf("Read takes %d of the lists, want %d", taken, want)
	}
}

// ordered are keys of which each is before all that follow; many are invalid.
func ordered() []api.IKey {
	long := strings.Repeat("a", 256)
	return []api.IKey{
		key("", math.MaxUint64, 0), key("", 9, 1), key("", 3, math.MaxInt), key("", 3, 0), key("", 0, 0),
		key("\x00", 1<<63, 0), key("\x00", 1<<63-1, 1), key("\x00", 0, 0),
		key("\x00\x00", 5, 1), key("\x00\x01", 5, 1), key("A", 0, 0),
		key("a", math.MaxUint64, math.MinInt), key("a", 1<<63, 5), key("a", api.MaxSeq+1, 0),
		key("a", api.MaxSeq, 1), key("a", 256, 0), key("a", 255, 1),
		key("a", 7, math.MaxInt), key("a", 7, 257), key("a", 7, 2), key("a", 7, 1), key("a", 7, 0),
		key("a", 7, -1), key("a", 7, -4), key("a", 7, math.MinInt),
		key("a", 5, 1), key("a", 1, 1), key("a", 1, 0), key("a", 0, 1), key("a", 0, 0), key("a", 0, -1),
		key("a\x00", math.MaxUint64, 1), key("a\x00", 0, 0), key("aa", 9, 1),
		key(long, 9, 1), key(long+"\x00", 9, 1), key(long+"a", 9, 1), key("ab", 9, 1),
		key("b", 9, 1), key("ba", 9, 1), key("\x7f", 5, 1), key("\x80", 5, 1), key("\xc3\xa4", 2, 1),
		key("\xfe\xff", 2, 1), key("\xff", 1, 0), key("\xff\x00", 1, 1), key("\xff\xff", 1, 1),
	}
}

func wantCompare(t *testing.T, a, b api.IKey, want int) {
	t.Helper()
	if got := Compare(a, b); got != want {
		t.Errorf("Compare(%q %d %d, %q %d %d) = %d, want %d", a.Key, a.Seq, a.Kind, b.Key, b.Seq, b.Kind, got, want)
	}
}

func TestP401CompareExamples(t *testing.T) {
	wantCompare(t, key("k", 5, 1), key("k", 7, 1), 1)
	wantCompare(t, key("k", 7, 1), key("k", 5, 1), -1)
	wantCompare(t, key("k", 7, 1), key("k", 7, 1), 0)
	wantCompare(t, key("k", 7, api.Delete), key("k", 7, api.Put), 1)
	wantCompare(t, key("k", 7, api.Put), key("k", 7, api.Delete), -1)
	wantCompare(t, api.IKey{}, api.IKey{Key: []byte{}}, 0)
	wantCompare(t, api.IKey{}, key("a", math.MaxUint64, math.MaxInt), -1)
}

func TestP401CompareOfAllPairs(t *testing.T) {
	for i, a := range ordered() {
		for k, b := range ordered() {
			want := 0
			if i < k {
				want = -1
			} else if i > k {
				want = 1
			}
			wantCompare(t, a, b, want)
		}
	}
}

// TestP401CompareTakesTheFirstDifference gives the later parts every order, which
// must not count.
func TestP401CompareTakesTheFirstDifference(t *testing.T) {
	numbers := []uint64{0, 1, 7, 1 << 56, 1 << 63, math.MaxUint64}
	kinds := []int{math.MinInt, -1, 0, 1, 2, math.MaxInt}
	for _, seqA := range numbers {
		for _, seqB := range numbers {
			for _, kindA := range kinds {
				for _, kindB := range kinds {
					wantCompare(t, key("a", seqA, kindA), key("b", seqB, kindB), -1)
					wantCompare(t, key("b", seqA, kindA), key("a", seqB, kindB), 1)
					wantCompare(t, key("a", seqA, kindA), key("a\x00", seqB, kindB), -1)
					wantCompare(t, key("", seqA, kindA), key("\x00", seqB, kindB), -1)
					wantCompare(t, key("a", seqA, kindA), key("a", seqB, kindB), chapterOrder(seqA, seqB, kindA, kindB))
				}
			}
		}
	}
}

// chapterOrder is that of two keys with equal Keys.
func chapterOrder(seqA, seqB uint64, kindA, kindB int) int {
	switch {
	case seqA > seqB:
		return -1
	case seqA < seqB:
		return 1
	case kindA > kindB:
		return -1
	case kindA < kindB:
		return 1
	}
	return 0
}

func TestP401CompareDoesNotReadBeyondTheLength(t *testing.T) {
	whole := []byte("abcdef")
	a := api.IKey{Key: whole[:2], Seq: 1, Kind: api.Put}
	wantCompare(t, a, key("ab", 1, api.Put), 0)
	wantCompare(t, a, api.IKey{Key: whole[:3], Seq: 9, Kind: api.Put}, -1)
	wantCompare(t, api.IKey{Key: whole[:0], Seq: 1, Kind: api.Put}, api.IKey{Seq: 1, Kind: api.Put}, 0)
}

func TestP402ArgumentsStay(t *testing.T) {
	whole := bytes.Repeat([]byte{9, 0, 250, 1}, 20)
	before := slices.Clone(whole)
	for n := range 30 {
		// The spare capacity behind the Key would hold the encoding's end.
		k := api.IKey{Key: whole[:n], Seq: api.MaxSeq, Kind: api.Put}
		Right(k)
		Bytes(k)
		Compare(k, api.IKey{Key: whole[1 : n+1]})
		Read(whole[:n])
		Read(slices.Clip(whole[:n]))
		if !bytes.Equal(whole, before) {
			t.Fatalf("%d: an argument changed to %v", n, whole)
		}
	}
}

func TestP402BytesAreNew(t *testing.T) {
	k := api.IKey{Key: append(make([]byte, 0, 40), "key"...), Seq: 5, Kind: api.Put}
	want := slices.Concat([]byte("key"), tailOf(5*256+1))
	first, second := Bytes(k), Bytes(k)
	k.Key[0] = 'x'
	clear(second[:cap(second)])
	if !bytes.Equal(first, want) {
		t.Errorf("Bytes changed to %v", first)
	}
	clear(first[:cap(first)])
	if string(k.Key) != "xey" || !bytes.Equal(k.Key[3:40], make([]byte, 37)) {
		t.Errorf("the argument changed to %q", k.Key[:40])
	}
	k.Key[0] = 'k'
	if got := Bytes(k); !bytes.Equal(got, want) {
		t.Errorf("Bytes = %v, then %v", want, got)
	}
}

func TestP402KeysReadAreNew(t *testing.T) {
	b := Bytes(key("key", 5, api.Put))
	before := slices.Clone(b)
	first, _ := Read(b)
	second, _ := Read(b)
	clear(first.Key[:cap(first.Key)])
	if !bytes.Equal(b, before) {
		t.Errorf("the argument changed to %v", b)
	}
	clear(b)
	if !same(second, key("key", 5, api.Put)) {
		t.Errorf("the key changed to %v", second)
	}
}

func TestP402ResultsRepeat(t *testing.T) {
	l := slices.Concat(ordered(), invalidKeys())
	for i, a := range l {
		b := l[(i+1)%len(l)]
		right, encoded, order := Right(a), Bytes(a), Compare(a, b)
		read, e := Read(a.Key)
		for range 2 {
			again, errno := Read(a.Key)
			if Right(a) != right || !bytes.Equal(Bytes(a), encoded) || Compare(a, b) != order || !same(again, read) || errno != e {
				t.Errorf("%d: results do not repeat", i)
			}
		}
	}
}
