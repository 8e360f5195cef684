package batch

import (
	"bytes"
	"encoding/binary"
	"math"
	"slices"
	"testing"

	"buttery/api"
)

func put(key, value string) api.Op {
	return api.Op{Kind: api.Put, Key: []byte(key), Value: []byte(value)}
}

func del(key string) api.Op { return api.Op{Kind: api.Delete, Key: []byte(key)} }

func text(n int) string { return string(bytes.Repeat([]byte("x"), n)) }

func of(seq uint64, ops ...api.Op) api.Batch { return api.Batch{Seq: seq, Ops: ops} }

// times is n operations, all of them op.
func times(n int, op api.Op) []api.Op { return slices.Repeat([]api.Op{op}, n) }

func sameOp(a, b api.Op) bool {
	return a.Kind == b.Kind && bytes.Equal(a.Key, b.Key) && bytes.Equal(a.Value, b.Value)
}

func same(a, b api.Batch) bool {
	return a.Seq == b.Seq && slices.EqualFunc(a.Ops, b.Ops, sameOp)
}

func validOps() []api.Op {
	l := []api.Op{
		put("a", ""), put("a", "bc"), put("\x00", "\x00"), put("\xff\x80", "\xff\x80\x00"), put("a", text(300)), del("a"), del("\x00\x01"),
		{Kind: api.Put, Key: []byte("a")}, {Kind: api.Delete, Key: []byte("a"), Value: []byte{}},
	}
	for _, n := range []int{1, 2, 127, 128, 129, 255, 256} {
		l = append(l, put(text(n), "v"), del(text(n)))
	}
	for _, n := range []int{0, 1, 127, 128, 129, 4095, 4096} {
		l = append(l, put("k", text(n)), put(text(256), text(n)))
	}
	return l
}

func invalidOps() []api.Op {
	l := []api.Op{
		{}, put("", ""), put("", "v"), del(""), put(text(257), ""), del(text(257)), put(text(5000), "v"),
		put("a", text(4097)), put("", text(4097)), put(text(257), text(4097)), put("a", text(10000)),
		{Kind: api.Delete, Key: []byte("a"), Value: []byte("b")},
		{Kind: api.Delete, Key: []byte("a"), Value: []byte{0}},
	}
	for _, kind := range []int{math.MinInt, -256, -255, -1, 2, 3, 255, 256, 257, 1 << 32, 1<<32 + 1, math.MaxInt} {
		l = append(l, api.Op{Kind: kind, Key: []byte("a")}, api.Op{Kind: kind, Key: []byte("a"), Value: []byte("b")})
	}
	return l
}

func validBatches() []api.Batch {
	l := []api.Batch{
		of(1, validOps()...), of(0x0102, put("ab", "c"), del("d"), put("e", "")),
		of(api.MaxSeq, del("a")), of(api.MaxSeq-1, del("a"), put("b", "c")),
		of(api.MaxSeq-98, times(99, put("a", "b"))...), of(api.MaxSeq-99, times(100, del("a"))...),
		of(5, times(100, put(text(256), text(4096)))...),
	}
	for _, op := range validOps() {
		l = append(l, of(7, op), of(8, op, op), of(1<<40, del("x"), op, put("y", "z")))
	}
	for n := 1; n <= 100; n++ {
		l = append(l, of(uint64(n)<<32+9, times(n, put("k", "v"))...))
	}
	return l
}

// chapterBytes encodes a valid batch.
func chapterBytes(x api.Batch) []byte {
	out := binary.LittleEndian.AppendUint64(nil, x.Seq)
	out = binary.LittleEndian.AppendUint32(out, uint32(len(x.Ops)))
	for _, op := range x.Ops {
		out = append(out, byte(op.Kind))
		out = append(binary.AppendUvarint(out, uint64(len(op.Key))), op.Key...)
		if op.Kind == api.Put {
			out = append(binary.AppendUvarint(out, uint64(len(op.Value))), op.Value...)
		}
	}
	return out
}

// chapterRead takes the chapter's steps one by one, on what is left of b.
func chapterRead(b []byte) (api.Batch, api.Errno) {
	if len(b) < 12 {
		return api.Batch{}, api.ErrShort
	}
	x := api.Batch{Seq: binary.LittleEndian.Uint64(b)}
	count := int(binary.LittleEndian.Uint32(b[8:]))
	if x.Seq == 0 || x.Seq > 1<<56-1 || count == 0 || count > 100 || x.Seq+uint64(count)-1 > 1<<56-1 {
		return api.Batch{}, api.ErrSyntax
	}
	b = b[12:]
	for range count {
		if len(b) == 0 {
			return api.Batch{}, api.ErrShort
		}
		if b[0] > 1 {
			return api.Batch{}, api.ErrSyntax
		}
		op := api.Op{Kind: int(b[0])}
		var e api.Errno
		if op.Key, b, e = chapterText(b[1:], 1, 256); e == api.OK && op.Kind == api.Put {
			op.Value, b, e = chapterText(b, 0, 4096)
		}
		if e != api.OK {
			return api.Batch{}, e
		}
		x.Ops = append(x.Ops, op)
	}
	if len(b) > 0 {
		return api.Batch{}, api.ErrSyntax
	}
	return x, api.OK
}

func chapterText(b []byte, least, most uint64) ([]byte, []byte, api.Errno) {
	n, used := binary.Uvarint(b)
	tooLong := used > 1 && b[used-1] == 0
	if used < 0 || tooLong || used > 0 && (n < least || n > most) {
		return nil, nil, api.ErrSyntax
	}
	if used == 0 || uint64(len(b)-used) < n {
		return nil, nil, api.ErrShort
	}
	return b[used : used+int(n)], b[used+int(n):], api.OK
}

func wantCheck(t *testing.T, ops []api.Op, want api.Errno) {
	t.Helper()
	if e := Check(ops); e != want {
		t.Errorf("Check of %d operations = %d, want %d", len(ops), e, want)
	}
}

// wantError is for batches with invalid numbers or operations.
func wantError(t *testing.T, x api.Batch, want api.Errno) {
	t.Helper()
	if b, e := Bytes(x); len(b) != 0 || e != want {
		t.Errorf("Bytes of %d operations from %d on = %v, %d, want %d", len(x.Ops), x.Seq, b, e, want)
	}
}

func wantRefused(t *testing.T, b []byte, want api.Errno) {
	t.Helper()
	if x, e := Read(b); !same(x, api.Batch{}) || e != want {
		t.Errorf("Read(%v) = %v, %d, want %d", b, x, e, want)
	}
}

func wantAsChapter(t *testing.T, b []byte) api.Errno {
	t.Helper()
	want, wantE := chapterRead(b)
	if x, e := Read(b); !same(x, want) || e != wantE {
		t.Errorf("Read(%v) = %v, %d, want %v, %d", b, x, e, want, wantE)
	}
	return wantE
}

// head is the beginning of an encoding.
func head(seq uint64, count uint32) []byte {
	return binary.LittleEndian.AppendUint32(binary.LittleEndian.AppendUint64(nil, seq), count)
}

func TestP501CheckTakesValidOperations(t *testing.T) {
	for _, op := range validOps() {
		wantCheck(t, []api.Op{op}, api.OK)
		wantCheck(t, []api.Op{op, del("a"), op}, api.OK)
	}
	for n := 1; n <= 100; n++ {
		wantCheck(t, times(n, del("a")), api.OK)
	}
}

func TestP501CheckLimitsTheNumberOfOperations(t *testing.T) {
	wantCheck(t, nil, api.ErrLong)
	wantCheck(t, []api.Op{}, api.ErrLong)
	wantCheck(t, times(200, del("a"))[:100], api.OK)
	for _, n := range []int{101, 102, 200, 256, 356, 1000} {
		wantCheck(t, times(n, del("a")), api.ErrLong)
		wantCheck(t, times(n, put("", "")), api.ErrLong)
		wantError(t, of(1, times(n, put("a", "b"))...), api.ErrLong)
	}
}

func TestP501CheckRefusesInvalidOperationsAnywhere(t *testing.T) {
	for _, op := range invalidOps() {
		wantCheck(t, []api.Op{op}, api.ErrArg)
		wantError(t, of(1, op), api.ErrArg)
		for _, n := range []int{2, 3, 100} {
			for _, at := range []int{0, n / 2, n - 1} {
				ops := times(n, put("a", "b"))
				ops[at] = op
				wantCheck(t, ops, api.ErrArg)
				wantError(t, of(1, ops...), api.ErrArg)
			}
		}
	}
}

func TestP501BytesExamples(t *testing.T) {
	for _, x := range []struct {
		x    api.Batch
		want []byte
	}{
		{of(1, put("a", "")), []byte{1, 0, 0, 0, 0, 0, 0, 0, 1, 0, 0, 0, 1, 1, 'a', 0}},
		{of(256, del("ab")), []byte{0, 1, 0, 0, 0, 0, 0, 0, 1, 0, 0, 0, 0, 2, 'a', 'b'}},
		{of(0x01020304050607, del("a"), put("b", "cd")), []byte{7, 6, 5, 4, 3, 2, 1, 0, 2, 0, 0, 0, 0, 1, 'a', 1, 1, 'b', 2, 'c', 'd'}},
		{of(api.MaxSeq, put("\x00", "\xff")), []byte{255, 255, 255, 255, 255, 255, 255, 0, 1, 0, 0, 0, 1, 1, 0, 1, 255}},
	} {
		if got, e := Bytes(x.x); !bytes.Equal(got, x.want) || e != api.OK {
			t.Errorf("Bytes(%v) = %v, %d, want %v", x.x, got, e, x.want)
		}
	}
}

func TestP501BytesOfLongTexts(t *testing.T) {
	got, e := Bytes(of(3, put(text(256), text(4096))))
	want := slices.Concat(head(3, 1), []byte{1, 128, 2}, []byte(text(256)), []byte{128, 32}, []byte(text(4096)))
	if !bytes.Equal(got, want) || e != api.OK {
		t.Errorf("Bytes has %d bytes, %d, want %d", len(got), e, len(want))
	}
}

func TestP501BytesAreThoseOfTheChapter(t *testing.T) {
	for _, x := range validBatches() {
		if got, e := Bytes(x); !bytes.Equal(got, chapterBytes(x)) || e != api.OK {
			t.Errorf("Bytes of %d operations from %d on has %d bytes, %d, want %d bytes", len(x.Ops), x.Seq, len(got), e, len(chapterBytes(x)))
		}
	}
}

func TestP501BytesLimitsNumbers(t *testing.T) {
	for _, n := range []int{1, 2, 3, 50, 99, 100} {
		ops := times(n, del("a"))
		last := api.MaxSeq - uint64(n) + 1
		wantError(t, of(0, ops...), api.ErrArg)
		for _, seq := range []uint64{1, 2, last - 1, last} {
			if b, e := Bytes(of(seq, ops...)); !bytes.Equal(b, chapterBytes(of(seq, ops...))) || e != api.OK {
				t.Errorf("Bytes of %d operations from %d on = %v, %d", n, seq, b, e)
			}
		}
		for _, seq := range []uint64{last + 1, last + 2, api.MaxSeq + 1, 1 << 57, 1 << 63, math.MaxUint64 - 99, math.MaxUint64 - 1, math.MaxUint64} {
			wantError(t, of(seq, ops...), api.ErrArg)
		}
	}
}

func TestP501BytesNamesTheErrorOfCheckFirst(t *testing.T) {
	for _, seq := range []uint64{0, 1, api.MaxSeq + 1, math.MaxUint64} {
		wantError(t, of(seq), api.ErrLong)
		wantError(t, of(seq, times(101, del("a"))...), api.ErrLong)
		wantError(t, of(seq, del("")), api.ErrArg)
	}
}

func TestP501ReadRefusesEveryPartOfABatch(t *testing.T) {
	for _, x := range validBatches()[:20] {
		b := chapterBytes(x)
		step := 1 + len(b)/500
		for n := 0; n < len(b); n += step {
			wantRefused(t, b[:n], api.ErrShort)
		}
		wantRefused(t, b[:len(b)-1], api.ErrShort)
		wantRefused(t, slices.Clip(b[:len(b)-1]), api.ErrShort)
	}
}

func TestP501ReadRefusesWhatFollows(t *testing.T) {
	for _, x := range validBatches() {
		b := chapterBytes(x)
		for _, after := range [][]byte{{0}, {1}, {255}, chapterBytes(of(1, del("a"))), make([]byte, 300)} {
			wantRefused(t, slices.Concat(b, after), api.ErrSyntax)
		}
	}
}

func TestP501ReadJudgesNumbersTogether(t *testing.T) {
	// Too short for both: nothing is judged yet.
	for n := range 12 {
		wantRefused(t, make([]byte, n), api.ErrShort)
		wantRefused(t, bytes.Repeat([]byte{255}, n), api.ErrShort)
	}
	for _, count := range []uint32{0, 101, 102, 255, 356, 1 << 16, 1 << 24, 1<<31 - 1, 1 << 31, math.MaxUint32} {
		for _, seq := range []uint64{0, 1, api.MaxSeq, math.MaxUint64} {
			wantRefused(t, head(seq, count), api.ErrSyntax)
			wantRefused(t, append(head(seq, count), 0, 1, 'a'), api.ErrSyntax)
		}
	}
	for _, count := range []uint32{1, 2, 99, 100} {
		last := api.MaxSeq - uint64(count) + 1
		for _, seq := range []uint64{1, 2, last - 1, last} {
			wantRefused(t, head(seq, count), api.ErrShort)
		}
		for _, seq := range []uint64{0, last + 1, api.MaxSeq + 1, 1 << 63, math.MaxUint64 - 99, math.MaxUint64} {
			wantRefused(t, head(seq, count), api.ErrSyntax)
		}
	}
}

func TestP501ReadJudgesKindsAtOnce(t *testing.T) {
	first := chapterBytes(of(1, put("a", "b")))[12:]
	for kind := range 256 {
		want := api.ErrSyntax
		if kind <= 1 {
			want = api.ErrShort
		}
		wantRefused(t, append(head(1, 1), byte(kind)), want)
		wantRefused(t, slices.Concat(head(1, 2), first, []byte{byte(kind)}), want)
		if kind > 1 {
			wantRefused(t, append(head(1, 1), byte(kind), 1, 'a', 0), api.ErrSyntax)
		}
	}
}

func TestP501ReadJudgesLengthsAtOnce(t *testing.T) {
	for _, kind := range []byte{api.Delete, api.Put} {
		before := append(head(1, 1), kind)
		for _, n := range []uint64{0, 257, 300, 4096, 1 << 32, 1<<32 + 1, 1 << 63, 1<<63 + 1, math.MaxUint64} {
			wantRefused(t, binary.AppendUvarint(before, n), api.ErrSyntax)
		}
		for _, n := range []uint64{1, 2, 127, 128, 255, 256} {
			b := binary.AppendUvarint(before, n)
			wantRefused(t, b, api.ErrShort)
			wantRefused(t, append(b, text(int(n-1))...), api.ErrShort)
		}
	}
	before := append(head(1, 1), api.Put, 1, 'a')
	for _, n := range []uint64{4097, 5000, 1 << 32, 1<<32 + 1, 1 << 63, 1<<63 + 1, math.MaxUint64} {
		wantRefused(t, binary.AppendUvarint(before, n), api.ErrSyntax)
	}
	for _, n := range []uint64{1, 2, 127, 128, 4095, 4096} {
		b := binary.AppendUvarint(before, n)
		wantRefused(t, b, api.ErrShort)
		wantRefused(t, append(b, text(int(n-1))...), api.ErrShort)
	}
}

func TestP501ReadRefusesInvalidVarints(t *testing.T) {
	nine := slices.Clip(bytes.Repeat([]byte{255}, 9))
	for _, before := range [][]byte{append(head(1, 1), api.Delete), append(head(1, 1), api.Put), append(head(1, 1), api.Put, 1, 'a')} {
		for _, varint := range [][]byte{{128, 0}, {129, 0}, {129, 128, 0}, append(nine, 0), append(nine, 2), append(nine, 128), append(nine, 255)} {
			wantRefused(t, slices.Concat(before, varint), api.ErrSyntax)
			wantRefused(t, slices.Concat(before, varint, []byte("abc")), api.ErrSyntax)
		}
		// Until its last byte a length is not read, however great it must become.
		for n := 1; n <= 9; n++ {
			wantRefused(t, slices.Concat(before, nine[:n]), api.ErrShort)
		}
	}
}

func TestP501ReadOfADeleteHasNoValue(t *testing.T) {
	wantRefused(t, append(head(1, 1), api.Delete, 1, 'a', 0), api.ErrSyntax)
	wantRefused(t, append(head(1, 1), api.Delete, 1, 'a', 1, 'b'), api.ErrSyntax)
	want := of(1, del("a"), put("b", ""))
	if x, e := Read(append(head(1, 2), api.Delete, 1, 'a', api.Put, 1, 'b', 0)); !same(x, want) || e != api.OK {
		t.Errorf("Read = %v, %d, want %v", x, e, want)
	}
}

// TestP501ReadOfAnyByteAnywhere gives every place of a batch every value, whole
// and cut off at every place.
func TestP501ReadOfAnyByteAnywhere(t *testing.T) {
	whole := chapterBytes(of(api.MaxSeq-3, put("ab", "c"), del("d"), put("e", ""), put("f", text(130))))
	whole = whole[:len(whole)-126]
	count := map[api.Errno]int{}
	for at := range whole {
		for c := range 256 {
			b := slices.Clone(whole)
			b[at] = byte(c)
			for n := range len(b) + 1 {
				count[wantAsChapter(t, b[:n])]++
			}
			count[wantAsChapter(t, append(b, bytes.Repeat([]byte{1}, 126)...))]++
		}
	}
	for _, e := range []api.Errno{api.OK, api.ErrShort, api.ErrSyntax} {
		if count[e] < 200 {
			t.Errorf("%d of the lists give %d", count[e], e)
		}
	}
}

// TestP501ReadOfDamage changes valid encodings here and there.
func TestP501ReadOfDamage(t *testing.T) {
	x := uint32(1)
	next := func(n int) int {
		x = x*1664525 + 1013904223
		return int(x>>8) % n
	}
	telling := []byte{0, 1, 2, 3, 100, 101, 127, 128, 129, 130, 254, 255}
	for _, v := range validBatches()[7:60] {
		whole := chapterBytes(v)
		for range 500 {
			b := slices.Clone(whole)
			for range 1 + next(3) {
				at := next(min(len(b), 30))
				switch c := telling[next(len(telling))]; next(3) {
				case 0:
					b[at] = c
				case 1:
					b = slices.Insert(b, at, c)
				case 2:
					b = slices.Delete(b, at, at+1)
				}
			}
			if wantAsChapter(t, b) != api.OK {
				continue
			}
			read, _ := Read(b)
			if again, e := Bytes(read); !bytes.Equal(again, b) || e != api.OK {
				t.Errorf("Read(%v) = %v, which Bytes encodes as %v, %d", b, read, again, e)
			}
		}
	}
}

func TestP501ReadDoesNotReadBeyondTheLength(t *testing.T) {
	whole := chapterBytes(of(1, put("ab", "cd"), del("e")))
	before := append(slices.Clone(whole), 0, 1, 'x')
	if x, e := Read(before[:len(whole)]); !same(x, of(1, put("ab", "cd"), del("e"))) || e != api.OK {
		t.Errorf("Read = %v, %d", x, e)
	}
}

func TestP501Size(t *testing.T) {
	for _, x := range []struct {
		ops  []api.Op
		want int
	}{
		{nil, 0},
		{[]api.Op{}, 0},
		{[]api.Op{put("a", "bc")}, 19},
		{[]api.Op{del("abc")}, 19},
		{[]api.Op{put("a", "bc"), del("xyz")}, 38},
		{[]api.Op{{}}, 16},
		{[]api.Op{{Kind: -5, Key: []byte("ab"), Value: []byte("cde")}}, 21},
		{[]api.Op{{Kind: api.Delete, Key: []byte("ab"), Value: []byte("cde")}}, 21},
		{[]api.Op{put("", "abc"), put("abc", "")}, 38},
		{times(100, put(text(256), text(4096))), 436800},
		{times(1000, put(text(300), text(5000))), 5316000},
	} {
		if got := Size(x.ops); got != x.want {
			t.Errorf("Size of %d operations = %d, want %d", len(x.ops), got, x.want)
		}
	}
}

func TestP501SizeCountsLengths(t *testing.T) {
	wide := make([]byte, 3, 50)
	ops := make([]api.Op, 2, 9)
	ops[0], ops[1] = api.Op{Kind: api.Put, Key: wide, Value: wide[:2]}, del("a")
	if got := Size(ops); got != 3+2+16+1+16 {
		t.Errorf("Size = %d", got)
	}
}

func TestP502ReadReadsWhatBytesWrote(t *testing.T) {
	for _, x := range validBatches() {
		b, _ := Bytes(x)
		if got, e := Read(b); !same(got, x) || e != api.OK {
			t.Errorf("Read of %d operations from %d on = %d operations from %d on, %d", len(x.Ops), x.Seq, len(got.Ops), got.Seq, e)
		}
	}
}

func TestP502ArgumentsStay(t *testing.T) {
	whole := bytes.Repeat([]byte{9, 0, 250, 1}, 20)
	ops := make([]api.Op, 1, 5)
	for n := range 30 {
		// The spare capacity behind them would hold what is appended.
		ops[0] = api.Op{Kind: api.Put, Key: whole[:n], Value: whole[n : 2*n]}
		Check(ops)
		Size(ops)
		Bytes(api.Batch{Seq: api.MaxSeq, Ops: ops})
		Read(whole[:n])
		if !bytes.Equal(whole, bytes.Repeat([]byte{9, 0, 250, 1}, 20)) {
			t.Fatalf("%d: an argument changed to %v", n, whole)
		}
		if len(ops[0].Key) != n || !sameOp(ops[:2][1], api.Op{}) {
			t.Fatalf("%d: the operations changed to %v", n, ops[:2])
		}
	}
}

func TestP502BytesAreNew(t *testing.T) {
	x := of(5, put("ab", "cd"), del("e"))
	want := chapterBytes(x)
	first, _ := Bytes(x)
	second, _ := Bytes(x)
	clear(second[:cap(second)])
	x.Ops[0].Key[0], x.Ops[0].Value[0] = 'x', 'y'
	if !bytes.Equal(first, want) {
		t.Errorf("Bytes changed to %v", first)
	}
	clear(first[:cap(first)])
	if !same(x, of(5, put("xb", "yd"), del("e"))) {
		t.Errorf("the argument changed to %v", x)
	}
}

func TestP502BatchesReadAreNew(t *testing.T) {
	x := of(5, put("ab", "cd"), put("ef", ""), del("g"))
	b := chapterBytes(x)
	first, _ := Read(b)
	second, _ := Read(b)
	for _, op := range first.Ops {
		clear(op.Key[:cap(op.Key)])
		clear(op.Value[:cap(op.Value)])
	}
	clear(first.Ops[:cap(first.Ops)])
	if !bytes.Equal(b, chapterBytes(x)) {
		t.Errorf("the argument changed to %v", b)
	}
	clear(b)
	if !same(second, x) {
		t.Errorf("the batch changed to %v", second)
	}
}

func TestP502SlicesWithinABatchReadAreSeparate(t *testing.T) {
	x := of(5, put("ab", "cd"), put("ef", "gh"), del("i"))
	for at := range 2 * len(x.Ops) {
		got, _ := Read(chapterBytes(x))
		op := &got.Ops[at/2]
		part := &op.Key
		if at%2 == 1 {
			part = &op.Value
		}
		clear((*part)[:cap(*part)])
		*part = nil
		want := of(5, slices.Clone(x.Ops)...)
		if at%2 == 0 {
			want.Ops[at/2].Key = nil
		} else {
			want.Ops[at/2].Value = nil
		}
		if !same(got, want) {
			t.Errorf("%d: the others changed to %v", at, got)
		}
	}
}

func TestP502ResultsRepeat(t *testing.T) {
	for _, op := range slices.Concat(validOps(), invalidOps()) {
		x := of(9, del("a"), op)
		e, size := Check(x.Ops), Size(x.Ops)
		b, bytesE := Bytes(x)
		read, readE := Read(b)
		for range 2 {
			again, againE := Bytes(x)
			readAgain, readAgainE := Read(b)
			if Check(x.Ops) != e || Size(x.Ops) != size || !bytes.Equal(again, b) || againE != bytesE || !same(readAgain, read) || readAgainE != readE {
				t.Errorf("results for %v do not repeat", op)
			}
		}
	}
}
