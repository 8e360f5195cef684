package wal

import (
	"bytes"
	"math"
	"math/rand"
	"slices"
	"strconv"
	"strings"
	"testing"

	"buttery/api"
	"buttery/batch"
	"buttery/disk"
	"buttery/frame"
)

const log = "000001.log"

func put(key, value string) api.Op {
	return api.Op{Kind: api.Put, Key: []byte(key), Value: []byte(value)}
}

func del(key string) api.Op { return api.Op{Kind: api.Delete, Key: []byte(key)} }

func of(seq uint64, ops ...api.Op) api.Batch { return api.Batch{Seq: seq, Ops: ops} }

func text(n int) string { return strings.Repeat("x", n) }

// numbered is a batch of n operations, each unlike the others.
func numbered(seq uint64, n int) api.Batch {
	x := api.Batch{Seq: seq}
	for i := range n {
		key := "k" + strconv.FormatUint(seq, 10) + "." + strconv.Itoa(i)
		if i%3 == 1 {
			x.Ops = append(x.Ops, del(key))
		} else {
			x.Ops = append(x.Ops, put(key, text(i*5)))
		}
	}
	return x
}

// great takes some 400 kB.
func great(seq uint64) api.Batch {
	x := api.Batch{Seq: seq}
	for i := range 100 {
		x.Ops = append(x.Ops, put(strconv.Itoa(i), text(4096)))
	}
	return x
}

func copied(x api.Batch) api.Batch {
	ops := slices.Clone(x.Ops)
	for i := range ops {
		ops[i].Key, ops[i].Value = bytes.Clone(ops[i].Key), bytes.Clone(ops[i].Value)
	}
	return api.Batch{Seq: x.Seq, Ops: ops}
}

func sameOp(a, b api.Op) bool {
	return a.Kind == b.Kind && bytes.Equal(a.Key, b.Key) && bytes.Equal(a.Value, b.Value)
}

func same(a, b api.Batch) bool { return a.Seq == b.Seq && slices.EqualFunc(a.Ops, b.Ops, sameOp) }

func sameAll(a, b []api.Batch) bool { return slices.EqualFunc(a, b, same) }

// record is the encoding of a batch that is right.
func record(t *testing.T, x api.Batch) []byte {
	t.Helper()
	b, e := batch.Bytes(x)
	if e != api.OK {
		t.Fatalf("Bytes = %d", e)
	}
	return b
}

// logOf is a log of records, and where it ended before the first of them and after each.
func logOf(records ...[]byte) ([]byte, []int) {
	var b []byte
	ends := []int{0}
	for _, r := range records {
		b = append(b, frame.Put(len(b), r)...)
		ends = append(ends, len(b))
	}
	return b, ends
}

func logOfBatches(t *testing.T, l ...api.Batch) ([]byte, []int) {
	t.Helper()
	var records [][]byte
	for _, x := range l {
		records = append(records, record(t, x))
	}
	return logOf(records...)
}

// with is a disk that has nothing but the log, which is synced.
func with(t *testing.T, b []byte) *disk.Disk {
	t.Helper()
	d := disk.New(math.MaxInt)
	if d.Append(log, b) != api.OK || d.Sync(log) != api.OK {
		t.Fatal("the disk does not take a log")
	}
	return d
}

func wantErrno(t *testing.T, what string, got, want api.Errno) {
	t.Helper()
	if got != want {
		t.Errorf("%s = %d, want %d", what, got, want)
	}
}

// wantLog is for disks without armed failures.
func wantLog(t *testing.T, what string, d *disk.Disk, want []byte) {
	t.Helper()
	got, e := d.Read(log, 0, math.MaxInt)
	if e != api.OK || !bytes.Equal(got, want) {
		t.Errorf("%s: the log is %.300x, %d, want %.300x", what, got, e, want)
	}
}

func wantRecover(t *testing.T, what string, d *disk.Disk, class int, want ...api.Batch) {
	t.Helper()
	got, c, e := Recover(d, log)
	if e != api.OK || c != class || !sameAll(got, want) {
		t.Errorf("%s: Recover = %d batches, %d, %d, want %d, %d", what, len(got), c, e, len(want), class)
	}
}

func wantRefused(t *testing.T, what string, d *disk.Disk, name string, want api.Errno) {
	t.Helper()
	got, class, e := Recover(d, name)
	if e != want || len(got) != 0 || class != 0 {
		t.Errorf("%s: Recover = %d batches, %d, %d, want %d", what, len(got), class, e, want)
	}
}

// wantArmed tells whether of armed calls this is the next one that fails.
func wantArmed(t *testing.T, what string, d *disk.Disk) {
	t.Helper()
	failed := d.Failed()
	d.Size(log)
	if d.Failed() != failed+1 {
		t.Errorf("%s: other calls of the disk than the chapter's", what)
	}
	d.Fail(nil)
}

func badBatches() map[string]api.Batch {
	many := numbered(1, 100)
	many.Ops = append(many.Ops, del("a"))
	return map[string]api.Batch{
		"no operation":         of(1),
		"no operation, Seq 0":  of(0),
		"too many operations":  many,
		"Seq 0":                of(0, put("a", "b")),
		"Seq above MaxSeq":     of(api.MaxSeq+1, put("a", "b")),
		"greatest Seq":         of(math.MaxUint64, put("a", "b"), del("c")),
		"numbers above MaxSeq": of(api.MaxSeq, put("a", "b"), del("c")),
		"no key":               of(1, put("a", "b"), put("", "b")),
		"a long key":           of(1, del(text(257))),
		"a long value":         of(1, put("a", text(4097))),
		"a Delete's value":     of(1, api.Op{Kind: api.Delete, Key: []byte("a"), Value: []byte("b")}),
		"kind 2":               of(1, api.Op{Kind: 2, Key: []byte("a")}),
		"kind -1":              of(1, api.Op{Kind: -1, Key: []byte("a")}),
	}
}

func TestP801AppendExample(t *testing.T) {
	d := disk.New(100)
	wantErrno(t, "Append", Append(d, log, of(5, put("a", "bc")), false), api.OK)
	b := []byte{5, 0, 0, 0, 0, 0, 0, 0, 1, 0, 0, 0, 1, 1, 'a', 2, 'b', 'c'}
	wantLog(t, "Append", d, frame.Put(0, b))
	wantErrno(t, "Append", Append(d, log, of(6, del("a")), false), api.OK)
	c := []byte{6, 0, 0, 0, 0, 0, 0, 0, 1, 0, 0, 0, 0, 1, 'a'}
	wantLog(t, "Append", d, append(frame.Put(0, b), frame.Put(25, c)...))
	if got := d.List(); !slices.Equal(got, []string{log}) {
		t.Errorf("List = %q", got)
	}
	wantRecover(t, "Append", d, api.EndClean, of(5, put("a", "bc")), of(6, del("a")))
}

func TestP801AppendAddsToAnyFile(t *testing.T) {
	for _, x := range []api.Batch{of(7, del("a")), of(7, put("key", text(150))), numbered(3, 20)} {
		b := record(t, x)
		for size := range 300 {
			before := bytes.Repeat([]byte{byte(size), 255}, 150)[:size]
			d := with(t, before)
			wantErrno(t, "Append", Append(d, log, x, size%2 == 0), api.OK)
			wantLog(t, "Append to "+strconv.Itoa(size)+" bytes", d, append(before, frame.Put(size, b)...))
		}
	}
}

func TestP801AppendOfManyBatches(t *testing.T) {
	d := disk.New(math.MaxInt)
	var want []byte
	var batches []api.Batch
	seq := uint64(1)
	for n := range 60 {
		x := numbered(seq, 1+n*7%100)
		seq += uint64(len(x.Ops) + n%3)
		batches = append(batches, x)
		want = append(want, frame.Put(len(want), record(t, x))...)
		wantErrno(t, "Append", Append(d, log, x, n%4 == 0), api.OK)
		wantErrno(t, "Append to another log", Append(d, "other", x, true), api.OK)
		wantErrno(t, "Append to another log", Append(d, "other", x, true), api.OK)
		wantLog(t, "Append", d, want)
	}
	wantRecover(t, "Append", d, api.EndClean, batches...)
}

func TestP801AppendTakesNumbersThatDoNotRise(t *testing.T) {
	l := []api.Batch{numbered(9, 3), numbered(9, 3), numbered(1, 1), numbered(api.MaxSeq, 1), numbered(2, 1)}
	d := disk.New(math.MaxInt)
	for _, x := range l {
		wantErrno(t, "Append", Append(d, log, x, true), api.OK)
	}
	want, _ := logOfBatches(t, l...)
	wantLog(t, "Append", d, want)
}

func TestP801AppendOfBatchesThatAreNone(t *testing.T) {
	for what, x := range badBatches() {
		_, want := batch.Bytes(x)
		if want == api.OK {
			t.Fatalf("%s: Bytes takes it", what)
		}
		d := with(t, []byte("abc"))
		for _, sync := range []bool{false, true} {
			for _, name := range []string{log, "other", "", "no name"} {
				wantErrno(t, what, Append(d, name, x, sync), want)
			}
			wantErrno(t, what+", nil", Append(nil, log, x, sync), want)
			// The disk isn't called: the armed failure is still there.
			d.Fail([]int{1})
			wantErrno(t, what+", armed", Append(d, log, x, sync), want)
			wantArmed(t, what, d)
			full := disk.New(0)
			wantErrno(t, what+", full", Append(full, log, x, sync), want)
			if len(full.List()) != 0 {
				t.Errorf("%s: a file is made", what)
			}
		}
		wantLog(t, what, d, []byte("abc"))
		if len(d.List()) != 1 {
			t.Errorf("%s: List = %q", what, d.List())
		}
	}
	wantErrno(t, "the errors' order", Append(disk.New(9), log, of(0), true), api.ErrLong)
	wantErrno(t, "the errors' order", Append(disk.New(9), log, of(0, del("a")), true), api.ErrArg)
}

func TestP801AppendOfNamesThatAreNone(t *testing.T) {
	for _, name := range []string{"", "a b", "a/b", "a_b", "é", text(41), "a\x00", "a\n"} {
		for _, sync := range []bool{false, true} {
			d := with(t, nil)
			wantErrno(t, strconv.Quote(name), Append(d, name, numbered(1, 2), sync), api.ErrName)
			if d.Used() != 0 || len(d.List()) != 1 {
				t.Errorf("%q: a file is made", name)
			}
			d.Fail([]int{1})
			wantErrno(t, strconv.Quote(name)+", armed", Append(d, name, numbered(1, 2), sync), api.ErrIO)
		}
	}
	for _, name := range []string{"a", ".", "-", "0", "LOG.1-a", text(40)} {
		d := disk.New(999)
		wantErrno(t, name, Append(d, name, numbered(1, 2), true), api.OK)
		if !slices.Equal(d.List(), []string{name}) {
			t.Errorf("%q: List = %q", name, d.List())
		}
	}
}

func TestP801AppendSyncs(t *testing.T) {
	a, b, c := numbered(1, 3), numbered(4, 30), numbered(50, 2)
	content, ends := logOfBatches(t, a, b, c)
	for row := range 8 {
		d := disk.New(math.MaxInt)
		kept := 0
		for i, x := range []api.Batch{a, b, c} {
			sync := row>>i&1 == 1
			wantErrno(t, "Append", Append(d, log, x, sync), api.OK)
			if sync {
				kept = ends[i+1]
			}
		}
		wantLog(t, "Append", d, content)
		d.Crash(5)
		wantLog(t, "Append, Crash", d, content[:min(kept+5, len(content))])
	}
}

func TestP801AppendSyncsItsLogOnly(t *testing.T) {
	d := disk.New(math.MaxInt)
	d.Append("other", []byte("abc"))
	wantErrno(t, "Append", Append(d, log, numbered(1, 3), true), api.OK)
	d.Crash(0)
	n, e := d.Size("other")
	m, f := d.Size(log)
	if n != 0 || e != api.OK || m == 0 || f != api.OK {
		t.Errorf("sizes are %d and %d", n, m)
	}
}

func TestP801AppendWhenTheDiskFails(t *testing.T) {
	a, b := numbered(1, 3), numbered(4, 30)
	content, ends := logOfBatches(t, a, b)
	for _, x := range []struct {
		fails []int
		sync  bool
		want  api.Errno
		size  int
		kept  int // after a crash
	}{
		{[]int{1}, false, api.ErrIO, ends[1], ends[1]},
		{[]int{-7, 0, 0}, true, api.ErrIO, ends[1], ends[1]},
		{[]int{0, 1}, false, api.ErrIO, ends[1], ends[1]},
		{[]int{0, 1}, true, api.ErrIO, ends[1], ends[1]},
		{[]int{0, 0, 1}, true, api.ErrIO, ends[2], ends[1]},
		{[]int{0, 0, 1}, false, api.OK, ends[2], ends[1]},
		{[]int{0, 0, 0, 1}, true, api.OK, ends[2], ends[2]},
	} {
		what := "a log, and failures " + strconv.Itoa(len(x.fails))
		d := with(t, content[:ends[1]])
		d.Fail(x.fails)
		wantErrno(t, what, Append(d, log, b, x.sync), x.want)
		if x.want == api.OK {
			wantArmed(t, what, d)
		}
		d.Fail(nil)
		wantLog(t, what, d, content[:x.size])
		d.Crash(0)
		wantLog(t, what+", Crash", d, content[:x.kept])
	}
}

func TestP801AppendCreatesWhenTheDiskFails(t *testing.T) {
	a := numbered(1, 3)
	content, _ := logOfBatches(t, a)
	for n := range 5 {
		for _, sync := range []bool{false, true} {
			d := disk.New(math.MaxInt)
			d.Fail(append(make([]int, n), 1))
			got := Append(d, log, a, sync)
			calls, want := 2, api.OK
			if sync {
				calls = 3
			}
			if n < calls {
				want = api.ErrIO
			}
			what := "a new log, and failure " + strconv.Itoa(n)
			wantErrno(t, what, got, want)
			if n == calls {
				wantArmed(t, what, d)
			}
			d.Fail(nil)
			if n < 2 {
				_, e := d.Size(log)
				wantErrno(t, what+": Size", e, api.ErrNone)
				continue
			}
			wantLog(t, what, d, content)
			d.Crash(0)
			if sync && n > 2 {
				wantLog(t, what+", Crash", d, content)
			} else {
				wantLog(t, what+", Crash", d, nil)
			}
		}
	}
}

func TestP801AppendOnAFullDisk(t *testing.T) {
	a, b := numbered(1, 3), numbered(4, 2)
	content, ends := logOfBatches(t, a, b)
	for room := -1; room < len(content)+3; room++ {
		for _, sync := range []bool{false, true} {
			d := disk.New(room)
			want, size := api.OK, ends[1]
			if room < ends[1] {
				want = api.ErrFull
			}
			wantErrno(t, "Append", Append(d, log, a, sync), want)
			if want != api.OK {
				if len(d.List()) != 0 {
					t.Errorf("room %d: a file is made", room)
				}
				continue
			}
			if room < ends[2] {
				want = api.ErrFull
			} else {
				size = ends[2]
			}
			wantErrno(t, "Append", Append(d, log, b, sync), want)
			wantLog(t, "Append", d, content[:size])
		}
	}
}

func TestP801AppendThatFailsDoesNotSync(t *testing.T) {
	d := disk.New(100)
	wantErrno(t, "Append", Append(d, log, of(1, del("a")), false), api.OK)
	wantErrno(t, "Append", Append(d, log, of(2, put("a", text(100))), true), api.ErrFull)
	d.Crash(0)
	wantLog(t, "Append, Crash", d, nil)
}

func TestP801AppendLimitsAFile(t *testing.T) {
	x := of(1, put("a", text(100)))
	b := record(t, x)
	for _, left := range []int{0, 1, 119, len(frame.Put(0, b)), 300} {
		size := api.MaxFile - left
		before := make([]byte, size)
		d := with(t, before)
		added := frame.Put(size, b)
		want := api.OK
		if len(added) > left {
			want, added = api.ErrLong, nil
		}
		wantErrno(t, "Append", Append(d, log, x, true), want)
		if n, e := d.Size(log); n != size+len(added) || e != api.OK {
			t.Errorf("Size = %d, %d, want %d", n, e, size+len(added))
		}
	}
}

func TestP801AppendLimitsFiles(t *testing.T) {
	d := disk.New(math.MaxInt)
	for n := range api.MaxFiles {
		wantErrno(t, "Append", d.Append(strconv.Itoa(n), nil), api.OK)
	}
	wantErrno(t, "Append to a new file", Append(d, log, numbered(1, 1), true), api.ErrLong)
	wantErrno(t, "Append to a file", Append(d, "999", numbered(1, 1), true), api.OK)
}

func TestP801RecoverOfAFileThatDoesNotExist(t *testing.T) {
	d := with(t, frame.Put(0, record(t, numbered(1, 3))))
	for _, name := range []string{"other", log + ".", "000001", "A", text(40)} {
		wantRefused(t, name, d, name, api.ErrNone)
	}
	wantRefused(t, "an empty disk", disk.New(9), log, api.ErrNone)
	if !slices.Equal(d.List(), []string{log}) {
		t.Errorf("List = %q", d.List())
	}
	d.Remove(log)
	wantRefused(t, "a removed file", d, log, api.ErrNone)
}

func TestP801RecoverOfNamesThatAreNone(t *testing.T) {
	for _, name := range []string{"", "a b", "a/b", "a_b", "é", text(41), "a\x00", "a\n"} {
		d := with(t, nil)
		wantRefused(t, strconv.Quote(name), d, name, api.ErrName)
		d.Fail([]int{1})
		wantRefused(t, strconv.Quote(name)+", armed", d, name, api.ErrIO)
	}
}

func TestP801RecoverWhenTheDiskFails(t *testing.T) {
	l := []api.Batch{numbered(1, 3), numbered(4, 30)}
	content, _ := logOfBatches(t, l...)
	for _, b := range [][]byte{content, content[:len(content)-1], nil} {
		d := with(t, b)
		for _, fails := range [][]int{{1}, {5, 0}, {0, 1}, {0, -1, 0}} {
			d.Fail(fails)
			wantRefused(t, "armed", d, log, api.ErrIO)
		}
		d.Fail([]int{0, 0, 1})
		if _, _, e := Recover(d, log); e != api.OK {
			t.Errorf("Recover = %d", e)
		}
		wantArmed(t, "Recover", d)
		d.Fail([]int{1})
		wantRefused(t, "armed", d, "other", api.ErrIO)
		wantRefused(t, "no more armed", d, "other", api.ErrNone)
	}
}

func TestP801RecoverReadsWhatAppendWrote(t *testing.T) {
	for what, l := range map[string][]api.Batch{
		"none":                 nil,
		"one":                  {of(1, put("a", ""))},
		"a great Seq":          {of(api.MaxSeq, del("a"))},
		"up to MaxSeq":         {numbered(1, 100), numbered(101, 1), numbered(1000, 2), numbered(api.MaxSeq-99, 100)},
		"from far on":          {numbered(1<<40, 5), numbered(1<<40+5, 5)},
		"long keys and values": {of(3, put(text(256), text(4096)), del(text(256)), put("\x00", "\x00\xff")), of(6, del("\xff"))},
		"one key over":         {of(1, put("a", "b"), del("a"), put("a", "")), of(4, put("a", "c")), of(5, del("a"))},
		"great ones":           {great(1), great(101), great(201), great(301), great(1 << 50)},
	} {
		d := disk.New(math.MaxInt)
		d.Append(log, nil)
		for _, x := range l {
			wantErrno(t, what, Append(d, log, x, false), api.OK)
		}
		wantRecover(t, what, d, api.EndClean, l...)
	}
}

// TestP801RecoverOfNumbers has for each list of batches, as Seq and count, how many
// of them remain.
func TestP801RecoverOfNumbers(t *testing.T) {
	for i, x := range []struct {
		l [][2]uint64
		n int
	}{
		{[][2]uint64{{1, 1}, {2, 1}, {3, 1}}, 3},
		{[][2]uint64{{1, 1}, {1, 1}, {2, 1}}, 1},
		{[][2]uint64{{2, 1}, {1, 1}, {3, 1}}, 1},
		{[][2]uint64{{5, 2}, {7, 1}}, 2},
		{[][2]uint64{{5, 2}, {6, 1}, {8, 1}}, 1},
		{[][2]uint64{{5, 2}, {5, 1}}, 1},
		{[][2]uint64{{5, 2}, {4, 1}}, 1},
		{[][2]uint64{{5, 1}, {4, 2}}, 1},
		{[][2]uint64{{5, 100}, {104, 1}}, 1},
		{[][2]uint64{{5, 100}, {105, 100}, {205, 1}}, 3},
		{[][2]uint64{{5, 100}, {105, 100}, {204, 1}, {300, 1}}, 2},
		{[][2]uint64{{1, 1}, {9, 1}, {5, 1}, {10, 1}}, 2},
		{[][2]uint64{{1, 1}, {9, 3}, {11, 1}, {12, 1}}, 2},
		{[][2]uint64{{1, 9}, {50, 1}, {51, 1}, {51, 1}}, 3},
		{[][2]uint64{{api.MaxSeq, 1}, {api.MaxSeq, 1}}, 1},
		{[][2]uint64{{api.MaxSeq, 1}, {1, 1}}, 1},
		{[][2]uint64{{api.MaxSeq - 1, 1}, {api.MaxSeq, 1}}, 2},
		{[][2]uint64{{api.MaxSeq - 1, 2}, {api.MaxSeq, 1}}, 1},
		{[][2]uint64{{1, 1}, {1 << 32, 1}, {1<<32 + 1, 1}, {5, 1}}, 3},
		{[][2]uint64{{256, 1}, {255, 1}}, 1},
		{[][2]uint64{{255, 1}, {256, 1}}, 2},
	} {
		var l []api.Batch
		for _, y := range x.l {
			l = append(l, numbered(y[0], int(y[1])))
		}
		content, _ := logOfBatches(t, l...)
		class := api.EndClean
		if x.n < len(l) {
			class = api.EndBad
		}
		wantRecover(t, "numbers "+strconv.Itoa(i), with(t, content), class, l[:x.n]...)
	}
}

func TestP801RecoverOfAllPairs(t *testing.T) {
	for first := range uint64(7) {
		for second := range uint64(14) {
			for n := range 6 {
				a, b := numbered(1+first, 1+n), numbered(1+second, 1+n%2)
				content, _ := logOfBatches(t, a, b)
				if b.Seq > first+uint64(1+n) {
					wantRecover(t, "rising", with(t, content), api.EndClean, a, b)
				} else {
					wantRecover(t, "not rising", with(t, content), api.EndBad, a)
				}
			}
		}
	}
}

// badRecords are no batches. Their Seq would be behind all others.
func badRecords(t *testing.T) map[string][]byte {
	t.Helper()
	b := record(t, of(5000, put("a", "bc"), del("d")))
	changed := func(at int, c byte) []byte {
		x := bytes.Clone(b)
		x[at] = c
		return x
	}
	return map[string][]byte{
		"nothing":             nil,
		"one byte":            {0},
		"text":                []byte("no batch"),
		"zeros":               make([]byte, 300),
		"long text":           []byte(text(1000)),
		"cut off":             b[:len(b)-1],
		"a head":              b[:12],
		"a part of a head":    b[:11],
		"bytes that follow":   append(bytes.Clone(b), 0),
		"two batches":         append(bytes.Clone(b), b...),
		"Seq above MaxSeq":    changed(7, 1),
		"no operation":        changed(8, 0),
		"fewer operations":    changed(8, 1),
		"more operations":     changed(8, 3),
		"too many operations": changed(9, 1),
		"a kind":              changed(12, 2),
		"no key":              changed(13, 0),
		"Seq 0":               append(make([]byte, 8), b[8:]...),
	}
}

func TestP801RecoverOfRecordsThatAreNoBatches(t *testing.T) {
	l := []api.Batch{numbered(1, 3), numbered(9, 40), numbered(70, 1), numbered(9000, 1)}
	for what, bad := range badRecords(t) {
		for at := range len(l) + 1 {
			var records [][]byte
			for _, x := range l {
				records = append(records, record(t, x))
			}
			records = slices.Insert(records, at, bad)
			content, ends := logOf(records...)
			what := what + " at " + strconv.Itoa(at)
			wantRecover(t, what, with(t, content), api.EndBad, l[:at]...)
			// Once more at the log's end; then with two of them.
			wantRecover(t, what+", the last", with(t, content[:ends[at+1]]), api.EndBad, l[:at]...)
			content, _ = logOf(slices.Insert(records, at, bad)...)
			wantRecover(t, what+", twice", with(t, content), api.EndBad, l[:at]...)
		}
	}
}

// TestP801RecoverOfABadRecordAheadOfTheEnd has a log that ends in each way behind a
// record that is not the next batch.
func TestP801RecoverOfABadRecordAheadOfTheEnd(t *testing.T) {
	a, b := numbered(10, 3), numbered(20, 1)
	for _, bad := range [][]byte{nil, []byte("no batch"), record(t, numbered(12, 9)), record(t, a), record(t, numbered(1, 1))} {
		content, _ := logOf(record(t, a), bad)
		more := frame.Put(len(content), record(t, b))
		damaged := bytes.Clone(more)
		damaged[len(damaged)-1]++
		for n := range len(more) + 1 {
			wantRecover(t, "cut off", with(t, slices.Concat(content, more[:n])), api.EndBad, a)
			wantRecover(t, "damaged", with(t, slices.Concat(content, damaged[:n])), api.EndBad, a)
		}
	}
}

func TestP801RecoverOfABadRecordThatIsCutOff(t *testing.T) {
	a := numbered(10, 3)
	content, ends := logOf(record(t, a), []byte("no batch"))
	for n := ends[1] + 1; n < ends[2]; n++ {
		wantRecover(t, "cut off", with(t, content[:n]), api.EndTorn, a)
	}
}

func TestP801RecoverOfLogsCutAnywhere(t *testing.T) {
	l := []api.Batch{numbered(1, 3), numbered(4, 1), numbered(9, 12), numbered(100, 1), numbered(101, 30)}
	content, ends := logOfBatches(t, l...)
	classes := map[int]int{}
	for n := range len(content) + 1 {
		whole := 0
		for whole < len(l) && ends[whole+1] <= n {
			whole++
		}
		_, _, class := frame.All(content[:n])
		classes[class]++
		wantRecover(t, "cut at "+strconv.Itoa(n), with(t, content[:n]), class, l[:whole]...)
	}
	if classes[api.EndClean] < len(l)+1 || classes[api.EndTorn] < 500 {
		t.Errorf("classes are %v", classes)
	}
}

func TestP801RecoverAfterACrash(t *testing.T) {
	l := []api.Batch{numbered(1, 3), numbered(4, 20), numbered(90, 2)}
	_, ends := logOfBatches(t, l...)
	for keep := range ends[3] {
		d := disk.New(math.MaxInt)
		for i, x := range l {
			wantErrno(t, "Append", Append(d, log, x, i == 0), api.OK)
		}
		d.Crash(keep)
		n := ends[1] + keep
		class, whole := api.EndTorn, 1
		if n >= ends[2] {
			whole = 2
		}
		if n >= ends[3] {
			whole = 3
		}
		if n == ends[whole] || n > ends[3] {
			class = api.EndClean
		}
		wantRecover(t, "Crash", d, class, l[:whole]...)
	}
}

func TestP801RecoverOfDamage(t *testing.T) {
	l := []api.Batch{numbered(1, 3), numbered(4, 1), numbered(9, 9), numbered(100, 2)}
	content, _ := logOfBatches(t, l...)
	classes := map[int]int{}
	for bit := range 8 * len(content) {
		b := bytes.Clone(content)
		b[bit/8] ^= 1 << (bit % 8)
		records, _, class := frame.All(b)
		classes[class]++
		wantRecover(t, "bit "+strconv.Itoa(bit), with(t, b), class, l[:len(records)]...)
	}
	if classes[api.EndBad] == 0 || classes[api.EndTorn] == 0 || classes[api.EndClean] != 0 {
		t.Errorf("classes are %v", classes)
	}
}

func TestP801RecoverOfBytesThatAreNoLog(t *testing.T) {
	wantRecover(t, "an empty file", with(t, nil), api.EndClean)
	wantRecover(t, "zeros", with(t, make([]byte, 500)), api.EndBad)
	wantRecover(t, "few zeros", with(t, make([]byte, 6)), api.EndTorn)
	wantRecover(t, "text", with(t, []byte(text(500))), api.EndBad)
}

func TestP801RecoverAfterAppendBehindATornEnd(t *testing.T) {
	a, b, c := numbered(1, 3), numbered(4, 3), numbered(7, 3)
	content, ends := logOfBatches(t, a, b)
	torn := content[:ends[1]+20]
	d := with(t, torn)
	wantErrno(t, "Append", Append(d, log, c, true), api.OK)
	wantLog(t, "Append", d, slices.Concat(torn, frame.Put(len(torn), record(t, c))))
	wantRecover(t, "Append", d, api.EndBad, a)
}

func TestP801RecoverLeavesTheDisk(t *testing.T) {
	l := []api.Batch{numbered(1, 3), numbered(4, 30)}
	content, ends := logOfBatches(t, l...)
	d := disk.New(math.MaxInt)
	d.Append("other", []byte("abc"))
	Append(d, log, l[0], true)
	Append(d, log, l[1], false)
	for range 3 {
		wantRecover(t, "again", d, api.EndClean, l...)
		wantRefused(t, "none", d, "none", api.ErrNone)
	}
	if !slices.Equal(d.List(), []string{log, "other"}) || d.Used() != len(content)+3 {
		t.Errorf("List = %q, Used = %d", d.List(), d.Used())
	}
	wantLog(t, "Recover", d, content)
	d.Crash(0)
	wantLog(t, "Recover, Crash", d, content[:ends[1]])
}

// chapterRecover lays what the records tell beside each other first.
func chapterRecover(b []byte) ([]api.Batch, int) {
	records, _, class := frame.All(b)
	all := make([]api.Batch, len(records))
	right := make([]bool, len(records))
	for i, r := range records {
		x, e := batch.Read(r)
		all[i], right[i] = x, e == api.OK
	}
	for i, x := range all {
		if !right[i] || i > 0 && all[i-1].Seq+uint64(len(all[i-1].Ops)) > x.Seq {
			return all[:i], api.EndBad
		}
	}
	return all, class
}

// TestP801ScriptsOfCalls holds Append and Recover against the bytes that are to be
// in the log, and those that are synced.
func TestP801ScriptsOfCalls(t *testing.T) {
	r := rand.New(rand.NewSource(1))
	classes := map[int]int{}
	for range 600 {
		room := 200 + r.Intn(6000)
		d := disk.New(room)
		var content []byte
		synced, exists, seq := 0, false, uint64(1)
		for range 25 {
			x := numbered(seq, 1+r.Intn(6))
			seq += uint64(len(x.Ops))
			if r.Intn(15) == 0 {
				seq -= uint64(r.Intn(3)) % seq
			}
			fails := []int{0, 0, 0}
			if r.Intn(6) == 0 {
				fails[r.Intn(3)] = 1
			}
			sync := r.Intn(2) == 0
			d.Fail(fails)
			e := Append(d, log, x, sync)
			d.Fail(nil)
			added := frame.Put(len(content), record(t, x))
			want := api.OK
			switch {
			case fails[0] != 0 || fails[1] != 0:
				want = api.ErrIO
			case len(content)+len(added) > room:
				want = api.ErrFull
			default:
				content, exists = append(content, added...), true
				if sync && fails[2] != 0 {
					want = api.ErrIO
				} else if sync {
					synced = len(content)
				}
			}
			wantErrno(t, "Append", e, want)
			if d.Used() != len(content) {
				t.Fatalf("Used = %d, want %d", d.Used(), len(content))
			}
			if r.Intn(12) == 0 {
				keep := r.Intn(150)
				d.Crash(keep)
				content = content[:min(synced+keep, len(content))]
				synced = len(content)
			}
			if !exists {
				wantRefused(t, "no log", d, log, api.ErrNone)
				continue
			}
			wantLog(t, "a script", d, content)
			l, class := chapterRecover(content)
			classes[class]++
			wantRecover(t, "a script", d, class, l...)
		}
	}
	for class := range 3 {
		if classes[class] < 100 {
			t.Errorf("class %d %d times only", class, classes[class])
		}
	}
}

func TestP802ArgumentsStay(t *testing.T) {
	back := bytes.Repeat([]byte{9, 250}, 300)
	ops := []api.Op{
		{Kind: api.Put, Key: back[:5], Value: back[10:200]},
		{Kind: api.Delete, Key: back[200:210], Value: back[210:210]},
		{Kind: api.Put, Key: back[300:301], Value: back[301:301]},
		put("spare", "capacity"),
	}
	before, kept := bytes.Clone(back), copied(api.Batch{Ops: ops}).Ops
	d := disk.New(1500)
	for seq := range uint64(9) {
		// The last ones don't fit.
		e := Append(d, log, api.Batch{Seq: 1 + 3*seq, Ops: ops[:3]}, seq%2 == 0)
		if e != api.OK && e != api.ErrFull {
			t.Errorf("Append = %d", e)
		}
	}
	if !bytes.Equal(back, before) || !slices.EqualFunc(ops, kept, sameOp) {
		t.Error("Append changes what it is given")
	}
}

func TestP802ArgumentsAreNotKept(t *testing.T) {
	d := disk.New(math.MaxInt)
	name := []byte(log)
	x, y := numbered(1, 9), numbered(10, 3)
	want, _ := logOfBatches(t, x, y)
	for _, z := range []api.Batch{copied(x), copied(y)} {
		wantErrno(t, "Append", Append(d, string(name), z, false), api.OK)
		for i, op := range z.Ops {
			clear(op.Key)
			clear(op.Value)
			z.Ops[i] = api.Op{}
		}
	}
	clear(name)
	wantLog(t, "Append", d, want)
	wantRecover(t, "Append", d, api.EndClean, x, y)
}

// parts are all slices of bytes within batches.
func parts(l []api.Batch) [][]byte {
	var all [][]byte
	for _, x := range l {
		for _, op := range x.Ops {
			all = append(all, op.Key, op.Value)
		}
	}
	return all
}

func TestP802BatchesRecoveredAreSeparate(t *testing.T) {
	l := []api.Batch{numbered(1, 3), numbered(4, 1), numbered(9, 12)}
	content, _ := logOfBatches(t, l...)
	d := with(t, content)
	first, _, _ := Recover(d, log)
	for i := range parts(first) {
		got, _, _ := Recover(d, log)
		var before [][]byte
		for _, p := range parts(got) {
			before = append(before, bytes.Clone(p))
		}
		changed := parts(got)[i]
		changed = changed[:cap(changed)]
		for k := range changed {
			changed[k] ^= 255
		}
		for k, p := range parts(got) {
			if k != i && !bytes.Equal(p, before[k]) {
				t.Errorf("a change of part %d, or behind it, changes part %d", i, k)
			}
		}
	}
	if !sameAll(first, l) {
		t.Error("batches of two calls are the same")
	}
	wantLog(t, "Recover", d, content)
	wantRecover(t, "again", d, api.EndClean, l...)
}

func TestP802OperationsRecoveredAreSeparate(t *testing.T) {
	l := []api.Batch{numbered(1, 3), numbered(4, 1), numbered(9, 12)}
	content, _ := logOfBatches(t, l...)
	d := with(t, content)
	first, _, _ := Recover(d, log)
	for i := range first {
		got, _, _ := Recover(d, log)
		clear(got[i].Ops[:cap(got[i].Ops)])
		got[i] = l[i]
		if !sameAll(got, l) {
			t.Errorf("a change of the operations of batch %d changes others", i)
		}
		clear(got[:cap(got)])
	}
	if !sameAll(first, l) {
		t.Error("batches of two calls are the same")
	}
}

func TestP802RecoveredBatchesOutliveTheLog(t *testing.T) {
	l := []api.Batch{numbered(1, 3), numbered(4, 30)}
	content, _ := logOfBatches(t, l...)
	d := with(t, content)
	got, _, _ := Recover(d, log)
	Append(d, log, numbered(99, 50), true)
	d.Remove(log)
	Append(d, log, numbered(200, 50), true)
	if !sameAll(got, l) {
		t.Error("the log's changes are the batches'")
	}
}

// TestP802DisksAreSeparate has logs of one name on two disks, and of two names on
// each, in turns.
func TestP802DisksAreSeparate(t *testing.T) {
	names := []string{"a", "b"}
	disks := []*disk.Disk{disk.New(math.MaxInt), disk.New(math.MaxInt)}
	var want [4][]api.Batch
	for n := range 40 {
		k := n * 7 % 4
		x := numbered(uint64(1+10*(40-n)), 1+n%5)
		if n >= 20 {
			x.Seq = uint64(1000 + 10*n)
		}
		last := len(want[k]) - 1
		if last >= 0 && want[k][last].Seq > x.Seq {
			continue
		}
		want[k] = append(want[k], x)
		wantErrno(t, "Append", Append(disks[k/2], names[k%2], x, n%3 == 0), api.OK)
	}
	for k, l := range want {
		got, class, e := Recover(disks[k/2], names[k%2])
		if e != api.OK || class != api.EndClean || !sameAll(got, l) || len(l) < 5 {
			t.Errorf("log %d: Recover = %d batches, %d, %d, want %d", k, len(got), class, e, len(l))
		}
	}
}

func TestNoDisk(t *testing.T) {
	for _, sync := range []bool{false, true} {
		if Append(nil, log, numbered(1, 3), sync) == api.OK {
			t.Error("Append without a disk is OK")
		}
	}
	l, class, e := Recover(nil, log)
	if e == api.OK || len(l) != 0 || class != 0 {
		t.Errorf("Recover without a disk = %d batches, %d, %d", len(l), class, e)
	}
	d := &disk.Disk{}
	wantErrno(t, "Append to a disk without room", Append(d, log, numbered(1, 3), true), api.ErrFull)
	wantRefused(t, "a disk without room", d, log, api.ErrNone)
}
