package disk

import (
	"bytes"
	"math"
	"slices"
	"strconv"
	"strings"
	"testing"

	"buttery/api"
)

func text(n int) string { return strings.Repeat("x", n) }

// with is a disk with room and files, each written as name=content; they are synced.
func with(t *testing.T, room int, files ...string) *Disk {
	t.Helper()
	d := New(room)
	for _, f := range files {
		name, data, _ := strings.Cut(f, "=")
		wantErrno(t, "Append", d.Append(name, []byte(data)), api.OK)
		wantErrno(t, "Sync", d.Sync(name), api.OK)
	}
	return d
}

func wantErrno(t *testing.T, what string, got, want api.Errno) {
	t.Helper()
	if got != want {
		t.Errorf("%s = %d, want %d", what, got, want)
	}
}

// wantFiles is for disks without armed failures.
func wantFiles(t *testing.T, what string, d *Disk, want ...string) {
	t.Helper()
	var got, names []string
	used := 0
	for _, name := range d.List() {
		b, e := d.Read(name, 0, math.MaxInt)
		n, f := d.Size(name)
		if e != api.OK || f != api.OK || n != len(b) {
			t.Errorf("%s: Read of %q has %d bytes, %d, Size is %d, %d", what, name, len(b), e, n, f)
		}
		used += n
		got = append(got, name+"="+string(b))
	}
	for _, f := range want {
		name, _, _ := strings.Cut(f, "=")
		names = append(names, name)
	}
	if !slices.Equal(got, want) || !slices.Equal(d.List(), names) || d.Used() != used {
		t.Errorf("%s: %.100q, used %d, want %.100q, used %d", what, got, d.Used(), want, used)
	}
}

// calls are all that take names, each on the given one, with arguments that
// nothing is wrong with.
func calls(d *Disk, name string) []api.Errno {
	made := d.Append(name, nil)
	_, read := d.Read(name, 0, 0)
	_, size := d.Size(name)
	return []api.Errno{made, read, size, d.Sync(name), d.Rename(name, name), d.Remove(name)}
}

// badCalls are all that take names, in this order, on one that is no file's: those
// of Read and Append have other errors too.
func badCalls(d *Disk, name string, b []byte) []api.Errno {
	x, read := d.Read(name, -1, -1)
	y, beyond := d.Read(name, math.MaxInt, 1)
	n, size := d.Size(name)
	if len(x) != 0 || len(y) != 0 || n != 0 {
		return nil
	}
	return []api.Errno{read, beyond, size, d.Sync(name), d.Rename(name, name), d.Rename(name, "a"), d.Remove(name), d.Append(name, b)}
}

func wantAll(t *testing.T, what string, got []api.Errno, n int, want api.Errno) {
	t.Helper()
	if !slices.Equal(got, slices.Repeat([]api.Errno{want}, n)) {
		t.Errorf("%s: %v, want %d times %d", what, got, n, want)
	}
}

const nameBytes = "abcdefghijklmnopqrstuvwxyzABCDEFGHIJKLMNOPQRSTUVWXYZ0123456789.-"

func TestP601NamesOfEachByte(t *testing.T) {
	for c := range 256 {
		one := string([]byte{byte(c)})
		want, files := api.ErrName, "a=1"
		for _, name := range []string{one, one + "a", "a" + one, "a" + one + "b", text(39) + one, one + text(39)} {
			if strings.Contains(nameBytes, one) {
				want, files = api.OK, name+"=1"
			}
			wantAll(t, "calls on "+strconv.Quote(name), calls(New(9), name), 6, want)
			d := with(t, 9, "a=1")
			wantErrno(t, "Rename to "+strconv.Quote(name), d.Rename("a", name), want)
			wantFiles(t, "Rename to "+strconv.Quote(name), d, files)
		}
	}
}

func TestP601NamesOfEachLength(t *testing.T) {
	for n := range 100 {
		want := api.OK
		if n < 1 || n > 40 {
			want = api.ErrName
		}
		wantAll(t, "calls with a name of "+strconv.Itoa(n), calls(New(9), text(n)), 6, want)
		wantErrno(t, "Rename", with(t, 9, "a=1").Rename("a", text(n)), want)
	}
	for _, n := range []int{255, 256, 257, 296, 1000, 1 << 16, 1<<16 + 5} {
		wantAll(t, "calls with a name of "+strconv.Itoa(n), calls(New(9), text(n)), 6, api.ErrName)
	}
}

func TestP601NamesThatAreNone(t *testing.T) {
	for _, name := range []string{
		"", " ", "a b", " a", "a ", "a/b", "/", "\\", "_", "a_b", "é", "aé", "ａ", "٣", "Ж", "ſ", "\u212a", "\x00", "a\x00", "a\n", "\xc3", "a\xff", "\ufffd", "a:b", "a,b", "a+b", "*", "~", "@", "[", "`", "{",
		text(41), text(40) + "é", strings.Repeat("é", 20), strings.Repeat("a", 40) + ".",
	} {
		d := with(t, 9, "a=1")
		wantAll(t, "calls on "+strconv.Quote(name), badCalls(d, name, make([]byte, api.MaxFile+1)), 8, api.ErrName)
		wantErrno(t, "Rename", d.Rename("a", name), api.ErrName)
		// The name is judged ahead of the question whether there is a file.
		wantErrno(t, "Rename", d.Rename("none", name), api.ErrName)
		wantErrno(t, "Rename", d.Rename(name, "none"), api.ErrName)
		wantFiles(t, "names that are none", d, "a=1")
	}
}

func TestP601ThereIsNoSuchFile(t *testing.T) {
	for _, d := range []*Disk{New(9), with(t, 9, "a=1", "ab=", "A=2")} {
		before := d.List()
		for _, name := range []string{"b", "aa", "abc", "B", ".", "-", "0", text(40)} {
			wantAll(t, "calls on "+name, badCalls(d, name, nil)[:7], 7, api.ErrNone)
			d.Remove(name)
		}
		if !slices.Equal(d.List(), before) {
			t.Errorf("List = %q, want %q", d.List(), before)
		}
	}
}

func TestP601RemovedAndRenamedFilesAreGone(t *testing.T) {
	d := with(t, 99, "a=1", "b=2", "c=3")
	wantErrno(t, "Remove", d.Remove("a"), api.OK)
	wantErrno(t, "Rename", d.Rename("b", "e"), api.OK)
	for _, name := range []string{"a", "b"} {
		wantAll(t, "calls on "+name, badCalls(d, name, nil)[:7], 7, api.ErrNone)
		d.Remove(name)
	}
	wantFiles(t, "Remove, Rename", d, "c=3", "e=2")
}

func TestP601AppendCreatesAndAppends(t *testing.T) {
	d := New(100)
	wantFiles(t, "New", d)
	wantErrno(t, "Append", d.Append("f", nil), api.OK)
	wantFiles(t, "Append of nothing", d, "f=")
	wantErrno(t, "Append", d.Append("f", []byte{}), api.OK)
	wantFiles(t, "Append of nothing", d, "f=")
	wantErrno(t, "Append", d.Append("f", []byte("ab")), api.OK)
	wantErrno(t, "Append", d.Append("f", []byte("\x00\xff")), api.OK)
	wantErrno(t, "Append", d.Append("e", []byte("z")), api.OK)
	wantErrno(t, "Append", d.Append("f", nil), api.OK)
	wantErrno(t, "Append", d.Append("f", []byte("c")), api.OK)
	wantFiles(t, "Append", d, "e=z", "f=ab\x00\xffc")
}

func TestP601AppendInManySteps(t *testing.T) {
	d := New(1 << 20)
	var want []byte
	for n := range 400 {
		part := bytes.Repeat([]byte{byte(n)}, n%97)
		want = append(want, part...)
		wantErrno(t, "Append", d.Append("f", part), api.OK)
		wantErrno(t, "Append", d.Append("g", part[:n%97/2]), api.OK)
	}
	got, e := d.Read("f", 0, len(want))
	if n, _ := d.Size("g"); !bytes.Equal(got, want) || e != api.OK || d.Used() != len(want)+n {
		t.Errorf("Read has %d bytes, %d, want %d; used %d", len(got), e, len(want), d.Used())
	}
}

func TestP601AppendLimitsAFile(t *testing.T) {
	all := make([]byte, api.MaxFile+1)
	for _, first := range []int{0, 1, api.MaxFile / 2, api.MaxFile - 1, api.MaxFile} {
		d := New(math.MaxInt)
		wantErrno(t, "Append", d.Append("f", all[:first]), api.OK)
		wantErrno(t, "Append of one too many", d.Append("f", all[:api.MaxFile+1-first]), api.ErrLong)
		wantErrno(t, "Append of too many", d.Append("f", all), api.ErrLong)
		if n, e := d.Size("f"); n != first || e != api.OK || d.Used() != first {
			t.Errorf("Size = %d, %d, used %d, want %d", n, e, d.Used(), first)
		}
		wantErrno(t, "Append of the rest", d.Append("f", all[:api.MaxFile-first]), api.OK)
		wantErrno(t, "Append of one more", d.Append("f", all[:1]), api.ErrLong)
		wantErrno(t, "Append of nothing", d.Append("f", nil), api.OK)
		wantErrno(t, "Append of a new file", d.Append("g", all), api.ErrLong)
		if n, e := d.Size("f"); n != api.MaxFile || e != api.OK || d.Used() != api.MaxFile || len(d.List()) != 1 {
			t.Errorf("Size = %d, %d, used %d, want %d", n, e, d.Used(), api.MaxFile)
		}
	}
}

// full is a disk with room and MaxFiles files; the i-th one has the name ni.
func full(t *testing.T, room int) *Disk {
	t.Helper()
	d := New(room)
	for i := range api.MaxFiles {
		wantErrno(t, "Append", d.Append("n"+strconv.Itoa(i), nil), api.OK)
	}
	return d
}

func TestP601AppendLimitsTheNumberOfFiles(t *testing.T) {
	d := full(t, 10)
	wantErrno(t, "Append of one more", d.Append("more", nil), api.ErrLong)
	wantErrno(t, "Append of one more", d.Append("more", []byte("12")), api.ErrLong)
	wantErrno(t, "Append", d.Append("n999", []byte("12")), api.OK)
	if _, e := d.Size("more"); e != api.ErrNone || len(d.List()) != api.MaxFiles || d.Used() != 2 {
		t.Errorf("Size = %d, %d files, used %d", e, len(d.List()), d.Used())
	}
	wantErrno(t, "Remove", d.Remove("n5"), api.OK)
	wantErrno(t, "Append", d.Append("more", []byte("3")), api.OK)
	wantErrno(t, "Append of one more", d.Append("n5", nil), api.ErrLong)
	wantErrno(t, "Rename to a new name", d.Rename("more", "new"), api.OK)
	wantErrno(t, "Append of one more", d.Append("more", nil), api.ErrLong)
	wantErrno(t, "Rename over another", d.Rename("n1", "n2"), api.OK)
	wantErrno(t, "Append", d.Append("more", nil), api.OK)
	wantErrno(t, "Append of one more", d.Append("n1", nil), api.ErrLong)
	d.Crash(0)
	wantErrno(t, "Append of one more", d.Append("n1", nil), api.ErrLong)
	if len(d.List()) != api.MaxFiles {
		t.Errorf("%d files, want %d", len(d.List()), api.MaxFiles)
	}
}

func TestP601AppendLimitsTheRoom(t *testing.T) {
	for _, room := range []int{0, 1, 2, 100, 5000} {
		for _, first := range []int{0, 1, room / 2, room - 1, room} {
			if first < 0 || first > room {
				continue
			}
			d := with(t, room, "a="+text(first))
			for _, name := range []string{"a", "b"} {
				wantErrno(t, "Append of one too many", d.Append(name, make([]byte, room-first+1)), api.ErrFull)
				wantErrno(t, "Append of too many", d.Append(name, make([]byte, 2*room+1)), api.ErrFull)
				wantFiles(t, "full", d, "a="+text(first))
			}
			wantErrno(t, "Append of the rest", d.Append("b", []byte(text(room-first))), api.OK)
			wantErrno(t, "Append of nothing", d.Append("b", nil), api.OK)
			wantErrno(t, "Append of a new file", d.Append("c", nil), api.OK)
			wantErrno(t, "Append of one more", d.Append("c", []byte{1}), api.ErrFull)
			wantFiles(t, "full", d, "a="+text(first), "b="+text(room-first), "c=")
		}
	}
}

func TestP601RoomOfAnyNumber(t *testing.T) {
	for _, room := range []int{math.MinInt, math.MinInt + 1, -100, -1, 0} {
		d := New(room)
		wantErrno(t, "Append", d.Append("a", []byte{1}), api.ErrFull)
		wantErrno(t, "Append", d.Append("a", make([]byte, 1000)), api.ErrFull)
		wantFiles(t, "no room", d)
		wantErrno(t, "Append", d.Append("a", nil), api.OK)
		wantErrno(t, "Append", d.Append("a", []byte{1}), api.ErrFull)
		wantFiles(t, "no room", d, "a=")
	}
	for _, room := range []int{1 << 32, math.MaxInt - 1, math.MaxInt} {
		d := with(t, room, "a=12", "b=345")
		wantErrno(t, "Append", d.Append("a", []byte("6")), api.OK)
		wantFiles(t, "much room", d, "a=126", "b=345")
	}
}

func TestP601TheZeroDiskHasNoRoom(t *testing.T) {
	var d Disk
	wantFiles(t, "the zero disk", &d)
	wantErrno(t, "Rename", d.Rename("a", "b"), api.ErrNone)
	wantErrno(t, "Append", d.Append("a", []byte{1}), api.ErrFull)
	wantErrno(t, "Append", d.Append("a", nil), api.OK)
	wantFiles(t, "the zero disk", &d, "a=")
}

func TestP601RoomIsFreed(t *testing.T) {
	d := with(t, 10, "a=123", "b=4567", "c=890")
	fits := func(what string, n int) {
		t.Helper()
		wantErrno(t, what, d.Append("z", make([]byte, n+1)), api.ErrFull)
		wantErrno(t, what, d.Append("z", make([]byte, n)), api.OK)
		wantErrno(t, what, d.Append("z", []byte{1}), api.ErrFull)
		wantErrno(t, what, d.Remove("z"), api.OK)
	}
	fits("at first", 0)
	wantErrno(t, "Remove", d.Remove("a"), api.OK)
	fits("Remove", 3)
	wantErrno(t, "Rename", d.Rename("c", "a"), api.OK)
	fits("Rename", 3)
	wantErrno(t, "Rename", d.Rename("a", "b"), api.OK)
	fits("Rename over another", 7)
	wantErrno(t, "Rename", d.Rename("b", "b"), api.OK)
	fits("Rename to itself", 7)
	wantErrno(t, "Append", d.Append("b", []byte("1234567")), api.OK)
	d.Crash(2)
	fits("Crash", 5)
	wantFiles(t, "at last", d, "b=89012")
}

func TestP601TheOrderOfErrors(t *testing.T) {
	d := full(t, 2)
	much := make([]byte, api.MaxFile+1)
	wantErrno(t, "a name that is none", d.Append("a b", much), api.ErrName)
	wantErrno(t, "a long file ahead of a full disk", d.Append("n1", much), api.ErrLong)
	wantErrno(t, "too many files ahead of a full disk", d.Append("new", much[:3]), api.ErrLong)
	wantErrno(t, "a full disk", d.Append("n1", much[:api.MaxFile]), api.ErrFull)
	d.Fail([]int{1, 1, 1, 1})
	wantErrno(t, "a failure", d.Append("a b", much), api.ErrIO)
	wantErrno(t, "a failure", d.Append("n1", much), api.ErrIO)
	wantErrno(t, "a failure", d.Append("new", much[:3]), api.ErrIO)
	wantErrno(t, "a failure", d.Append("n1", much[:3]), api.ErrIO)
	wantErrno(t, "a full disk", d.Append("n1", much[:3]), api.ErrFull)
}

func TestP601AppendThatIsRefusedDoesNothing(t *testing.T) {
	d := with(t, 10, "a=12")
	wantErrno(t, "Append", d.Append("a", []byte("34")), api.OK)
	wantErrno(t, "Append", d.Append("a", make([]byte, 7)), api.ErrFull)
	wantErrno(t, "Append", d.Append("a", make([]byte, api.MaxFile)), api.ErrLong)
	wantErrno(t, "Append", d.Append("b", make([]byte, 7)), api.ErrFull)
	wantErrno(t, "Append", d.Append("b", make([]byte, api.MaxFile+1)), api.ErrLong)
	wantFiles(t, "Append", d, "a=1234")
	d.Crash(0)
	wantFiles(t, "Crash", d, "a=12")
}

func TestP601SyncOfOneFile(t *testing.T) {
	d := New(100)
	for _, name := range []string{"a", "b", "c"} {
		wantErrno(t, "Append", d.Append(name, []byte("12")), api.OK)
	}
	wantErrno(t, "Sync", d.Sync("b"), api.OK)
	wantErrno(t, "Append", d.Append("b", []byte("3")), api.OK)
	wantErrno(t, "Append", d.Append("c", []byte("3")), api.OK)
	wantErrno(t, "Sync", d.Sync("c"), api.OK)
	wantErrno(t, "Sync", d.Sync("c"), api.OK)
	wantFiles(t, "Sync", d, "a=12", "b=123", "c=123")
	d.Crash(0)
	wantFiles(t, "Crash", d, "a=", "b=12", "c=123")
}

func TestP601Rename(t *testing.T) {
	for _, x := range []struct {
		from, to string
		e        api.Errno
		want     []string
	}{
		{"a", "d", api.OK, []string{"b=34", "c=", "d=012"}},
		{"a", "A", api.OK, []string{"A=012", "b=34", "c="}},
		{"a", "b", api.OK, []string{"b=012", "c="}},
		{"b", "a", api.OK, []string{"a=34", "c="}},
		{"c", "a", api.OK, []string{"a=", "b=34"}},
		{"a", "c", api.OK, []string{"b=34", "c=012"}},
		{"a", "a", api.OK, []string{"a=012", "b=34", "c="}},
		{"c", "c", api.OK, []string{"a=012", "b=34", "c="}},
		{"d", "a", api.ErrNone, []string{"a=012", "b=34", "c="}},
		{"d", "d", api.ErrNone, []string{"a=012", "b=34", "c="}},
		{"d", "e", api.ErrNone, []string{"a=012", "b=34", "c="}},
		{"d", "", api.ErrName, []string{"a=012", "b=34", "c="}},
		{"", "a", api.ErrName, []string{"a=012", "b=34", "c="}},
		{"a", "", api.ErrName, []string{"a=012", "b=34", "c="}},
	} {
		d := with(t, 100, "a=012", "b=34", "c=")
		wantErrno(t, "Rename", d.Rename(x.from, x.to), x.e)
		wantFiles(t, "Rename of "+x.from+" to "+x.to, d, x.want...)
		d.Crash(0)
		wantFiles(t, "Crash after Rename of "+x.from+" to "+x.to, d, x.want...)
	}
}

func TestP601RenameKeepsWhatIsSynced(t *testing.T) {
	// Each file has the number of synced bytes in its name.
	build := func() *Disk {
		d := with(t, 100, "s0=", "s1=1", "s3=123")
		wantErrno(t, "Append", d.Append("s0", []byte("12345")), api.OK)
		wantErrno(t, "Append", d.Append("s1", []byte("2345")), api.OK)
		wantErrno(t, "Append", d.Append("s3", []byte("45")), api.OK)
		return d
	}
	for from, synced := range map[string]string{"s0": "", "s1": "1", "s3": "123"} {
		for _, to := range []string{"s0", "s1", "s3", "new"} {
			d := build()
			wantErrno(t, "Rename", d.Rename(from, to), api.OK)
			if b, e := d.Read(to, 0, 9); string(b) != "12345" || e != api.OK {
				t.Errorf("Read = %q, %d", b, e)
			}
			d.Crash(0)
			if b, e := d.Read(to, 0, 9); string(b) != synced || e != api.OK {
				t.Errorf("Read of %s that was %s = %q, %d, want %q", to, from, b, e, synced)
			}
		}
	}
}

func TestP601FilesGoOnUnderTheirNewName(t *testing.T) {
	d := with(t, 100, "a=1", "b=2")
	wantErrno(t, "Rename", d.Rename("a", "c"), api.OK)
	wantErrno(t, "Append", d.Append("c", []byte("3")), api.OK)
	wantErrno(t, "Append", d.Append("a", []byte("4")), api.OK)
	wantFiles(t, "a new file of the old name", d, "a=4", "b=2", "c=13")
	wantErrno(t, "Rename", d.Rename("c", "a"), api.OK)
	wantErrno(t, "Append", d.Append("a", []byte("5")), api.OK)
	wantFiles(t, "over another", d, "a=135", "b=2")
	wantErrno(t, "Remove", d.Remove("a"), api.OK)
	wantErrno(t, "Append", d.Append("a", []byte("678")), api.OK)
	wantFiles(t, "removed and new", d, "a=678", "b=2")
	d.Crash(0)
	wantFiles(t, "what is new is not synced", d, "a=", "b=2")
}

func TestP601Remove(t *testing.T) {
	d := with(t, 100, "a=12", "b=345", "c=")
	for _, x := range []struct {
		name string
		want []string
	}{{"b", []string{"a=12", "c="}}, {"c", []string{"a=12"}}, {"a", nil}} {
		wantErrno(t, "Remove", d.Remove(x.name), api.OK)
		wantErrno(t, "Remove", d.Remove(x.name), api.ErrNone)
		wantFiles(t, "Remove of "+x.name, d, x.want...)
	}
}

func TestP601ReadOfEveryPart(t *testing.T) {
	for _, data := range []string{"", "a", "ab", "0123456789"} {
		d := with(t, 100, "e=xyz", "f="+data, "g=xyz")
		numbers := []int{math.MinInt, math.MinInt + 1, -256, 1 << 32, math.MaxInt - 1, math.MaxInt}
		for n := -3; n < 14; n++ {
			numbers = append(numbers, n)
		}
		for _, at := range numbers {
			for _, n := range numbers {
				want, wantE := "", api.ErrArg
				if at >= 0 && n >= 0 && at <= len(data) {
					want, wantE = data[at:], api.OK
					if n < len(want) {
						want = want[:n]
					}
				}
				if b, e := d.Read("f", at, n); string(b) != want || e != wantE {
					t.Errorf("Read of %q, %d, %d = %q, %d, want %q, %d", data, at, n, b, e, want, wantE)
				}
			}
		}
		wantFiles(t, "Read", d, "e=xyz", "f="+data, "g=xyz")
	}
}

func TestP601ReadAndSizeOfWhatIsNotSynced(t *testing.T) {
	d := with(t, 100, "f=01")
	wantErrno(t, "Append", d.Append("f", []byte("234")), api.OK)
	b, e := d.Read("f", 1, 3)
	if n, f := d.Size("f"); string(b) != "123" || e != api.OK || n != 5 || f != api.OK || d.Used() != 5 {
		t.Errorf("Read = %q, %d, Size = %d, %d", b, e, n, f)
	}
}

func TestP601ListIsInAscendingOrder(t *testing.T) {
	names := []string{"-", "--", "-.", "-a", ".", ".-", "..", "0", "00", "1", "10", "2", "9", "A", "AA", "Aa", "B", "Z", "a", "a-", "a.", "a0", "aA", "aa", "b", "z", "zz"}
	if !slices.IsSorted(names) {
		t.Fatal("the names are not in order")
	}
	for first := range names {
		made := slices.Concat(names[first:], names[:first])
		if first%2 == 1 {
			slices.Reverse(made)
		}
		d := New(0)
		for _, name := range made {
			wantErrno(t, "Append", d.Append(name, nil), api.OK)
		}
		if !slices.Equal(d.List(), names) {
			t.Errorf("List = %q, want %q", d.List(), names)
		}
	}
}

func TestP602TheExample(t *testing.T) {
	d := New(100)
	wantErrno(t, "Append", d.Append("f", []byte("ab")), api.OK)
	d.Crash(1)
	wantFiles(t, "Crash", d, "f=a")
}

func TestP602CrashOfEveryPart(t *testing.T) {
	const data = "0123456789"
	for synced := range 6 {
		for size := synced; size < 10; size++ {
			for _, keep := range []int{math.MinInt, math.MinInt + 1, -2, -1, 0, 1, 2, 3, 4, 5, 6, 7, 8, 9, 10, 1 << 32, math.MaxInt - 9, math.MaxInt - 1, math.MaxInt} {
				d := with(t, 100, "a="+data[:synced], "b=x")
				wantErrno(t, "Append", d.Append("a", []byte(data[synced:size])), api.OK)
				want := min(size, synced+min(max(keep, 0), 10))
				d.Crash(keep)
				wantFiles(t, "Crash", d, "a="+data[:want], "b=x")
				d.Crash(0)
				wantFiles(t, "what remained is synced", d, "a="+data[:want], "b=x")
				wantErrno(t, "Append", d.Append("a", []byte("xyz")), api.OK)
				wantFiles(t, "Append after a crash", d, "a="+data[:want]+"xyz", "b=x")
				d.Crash(1)
				wantFiles(t, "Crash once more", d, "a="+data[:want]+"x", "b=x")
			}
		}
	}
}

func TestP602CrashOfEachFile(t *testing.T) {
	d := with(t, 100, "a=", "b=12", "c=1234", "d=")
	wantErrno(t, "Append", d.Append("a", []byte("1234")), api.OK)
	wantErrno(t, "Append", d.Append("b", []byte("345")), api.OK)
	wantErrno(t, "Append", d.Append("d", []byte("1")), api.OK)
	wantErrno(t, "Append", d.Append("e", []byte("12")), api.OK)
	wantErrno(t, "Append", d.Append("f", []byte("123")), api.OK)
	d.Crash(2)
	wantFiles(t, "Crash", d, "a=12", "b=1234", "c=1234", "d=1", "e=12", "f=12")
}

func TestP602CrashKeepsNames(t *testing.T) {
	d := with(t, 100, "a=1", "b=2", "c=3", "d=4")
	wantErrno(t, "Append", d.Append("new", nil), api.OK)
	wantErrno(t, "Append", d.Append("new2", []byte("lost")), api.OK)
	wantErrno(t, "Remove", d.Remove("a"), api.OK)
	wantErrno(t, "Rename", d.Rename("b", "e"), api.OK)
	wantErrno(t, "Rename", d.Rename("c", "d"), api.OK)
	d.Crash(0)
	wantFiles(t, "Crash", d, "d=3", "e=2", "new=", "new2=")
	New(0).Crash(3)
}

func TestP602CrashLeavesFailuresArmed(t *testing.T) {
	d := with(t, 100, "a=1")
	d.Fail([]int{1, 0, 1})
	wantErrno(t, "Sync", d.Sync("a"), api.ErrIO)
	d.Crash(0)
	if d.Failed() != 1 {
		t.Errorf("Failed = %d, want 1", d.Failed())
	}
	wantErrno(t, "Sync", d.Sync("a"), api.OK)
	d.Crash(0)
	wantErrno(t, "Sync", d.Sync("a"), api.ErrIO)
	wantErrno(t, "Sync", d.Sync("a"), api.OK)
	if d.Failed() != 2 {
		t.Errorf("Failed = %d, want 2", d.Failed())
	}
}

func TestP602FailOfEachCall(t *testing.T) {
	for i, call := range []func(d *Disk) api.Errno{
		func(d *Disk) api.Errno { return d.Append("a", []byte("x")) },
		func(d *Disk) api.Errno { return d.Append("new", nil) },
		func(d *Disk) api.Errno { return d.Sync("a") },
		func(d *Disk) api.Errno { return d.Rename("a", "b") },
		func(d *Disk) api.Errno { return d.Rename("a", "new") },
		func(d *Disk) api.Errno { return d.Rename("a", "a") },
		func(d *Disk) api.Errno { return d.Remove("a") },
		func(d *Disk) api.Errno {
			b, e := d.Read("a", 0, 1)
			if len(b) == 1 != (e == api.OK) {
				t.Errorf("Read = %v, %d", b, e)
			}
			return e
		},
		func(d *Disk) api.Errno {
			n, e := d.Size("a")
			if n != 0 != (e == api.OK) {
				t.Errorf("Size = %v, %d", n, e)
			}
			return e
		},
	} {
		for _, fault := range []int{1, 2, -1, 256, 1 << 32, math.MinInt, math.MaxInt} {
			d := with(t, 100, "a=12", "b=3")
			wantErrno(t, "Append", d.Append("a", []byte("4")), api.OK)
			d.Fail([]int{fault, fault, 0})
			what := "call " + strconv.Itoa(i)
			wantErrno(t, what, call(d), api.ErrIO)
			wantErrno(t, what, call(d), api.ErrIO)
			if d.Failed() != 2 {
				t.Errorf("%s: Failed = %d, want 2", what, d.Failed())
			}
			if d.Used() != 4 || !slices.Equal(d.List(), []string{"a", "b"}) {
				t.Errorf("%s that failed: used %d, %q", what, d.Used(), d.List())
			}
			wantErrno(t, what, call(d), api.OK)
			wantErrno(t, "Append", d.Append("z", nil), api.OK)
			if d.Failed() != 2 {
				t.Errorf("%s: Failed = %d, want 2", what, d.Failed())
			}
		}
	}
}

func TestP602WhatFailedDidNothing(t *testing.T) {
	d := with(t, 100, "a=12", "b=3")
	wantErrno(t, "Append", d.Append("a", []byte("45")), api.OK)
	d.Fail([]int{1, 1, 1, 1, 1, 1, 1})
	_, read := d.Read("a", 0, 9)
	_, size := d.Size("a")
	wantAll(t, "calls that fail", []api.Errno{d.Append("a", []byte("x")), d.Append("new", []byte("x")), d.Sync("a"), d.Rename("a", "b"), d.Remove("b"), read, size}, 7, api.ErrIO)
	wantFiles(t, "what failed", d, "a=1245", "b=3")
	d.Crash(0)
	wantFiles(t, "a Sync that failed", d, "a=12", "b=3")
}

func TestP602FailuresAreCheckedFirst(t *testing.T) {
	much := make([]byte, api.MaxFile+1)
	for _, name := range []string{"", "a b", "none", text(41)} {
		d := with(t, 9, "a=1")
		d.Fail(slices.Repeat([]int{1}, 9))
		wantAll(t, "calls on "+name, badCalls(d, name, much), 8, api.ErrIO)
		wantErrno(t, "Rename", d.Rename("a", name), api.ErrIO)
		if d.Failed() != 9 {
			t.Errorf("Failed = %d, want 9", d.Failed())
		}
		wantFiles(t, "calls that fail", d, "a=1")
	}
}

// TestP602EveryCallTakesAnElement has calls with errors of their own: each takes
// its element, be it 0 or not.
func TestP602EveryCallTakesAnElement(t *testing.T) {
	for name, errors := range map[string][]api.Errno{
		"":     slices.Repeat([]api.Errno{api.ErrName}, 8),
		"none": append(slices.Repeat([]api.Errno{api.ErrNone}, 7), api.ErrFull),
	} {
		for n := range errors {
			d := with(t, 9, "a=1")
			d.Fail(append(make([]int, n), 1))
			want := slices.Clone(errors)
			want[n] = api.ErrIO
			if got := badCalls(d, name, make([]byte, 9)); !slices.Equal(got, want) || d.Failed() != 1 {
				t.Errorf("calls on %q: %v, %d failed, want %v", name, got, d.Failed(), want)
			}
		}
	}
}

func TestP602OtherCallsTakeNoElement(t *testing.T) {
	d := with(t, 9, "a=1")
	d.Fail([]int{1, 0, 1})
	d.List()
	d.Used()
	d.Failed()
	d.Crash(1)
	wantErrno(t, "Sync", d.Sync("a"), api.ErrIO)
	d.List()
	d.Used()
	d.Failed()
	d.Crash(1)
	wantErrno(t, "Sync", d.Sync("a"), api.OK)
	wantErrno(t, "Sync", d.Sync("a"), api.ErrIO)
	wantErrno(t, "Sync", d.Sync("a"), api.OK)
}

func TestP602FailReplacesWhatWasArmed(t *testing.T) {
	d := with(t, 9, "a=1")
	sync := func(want ...api.Errno) {
		t.Helper()
		for _, e := range want {
			wantErrno(t, "Sync", d.Sync("a"), e)
		}
	}
	sync(api.OK)
	d.Fail([]int{0, 0, 1, 1, 1})
	sync(api.OK, api.OK, api.ErrIO)
	d.Fail([]int{0, 1})
	sync(api.OK, api.ErrIO, api.OK, api.OK, api.OK)
	d.Fail([]int{1, 1})
	d.Fail([]int{1})
	sync(api.ErrIO, api.OK, api.OK)
	d.Fail([]int{1, 1})
	d.Fail(nil)
	sync(api.OK, api.OK)
	d.Fail([]int{1, 1})
	d.Fail([]int{})
	sync(api.OK, api.OK)
	d.Fail([]int{0})
	sync(api.OK, api.OK)
	if d.Failed() != 3 {
		t.Errorf("Failed = %d, want 3", d.Failed())
	}
}

func TestP603DisksAreIndependent(t *testing.T) {
	a, b := New(10), New(3)
	wantErrno(t, "Append", a.Append("f", []byte("1234567")), api.OK)
	wantFiles(t, "the other disk", b)
	wantErrno(t, "Append", b.Append("f", []byte("8")), api.OK)
	wantErrno(t, "Append", b.Append("g", []byte("9")), api.OK)
	wantErrno(t, "Sync", b.Sync("f"), api.OK)
	a.Fail([]int{1, 1})
	wantErrno(t, "Sync", b.Sync("f"), api.OK)
	wantErrno(t, "Sync", a.Sync("f"), api.ErrIO)
	if a.Failed() != 1 || b.Failed() != 0 {
		t.Errorf("Failed = %d, %d, want 1, 0", a.Failed(), b.Failed())
	}
	b.Fail(nil)
	wantErrno(t, "Sync", a.Sync("f"), api.ErrIO)
	wantErrno(t, "Remove", b.Remove("g"), api.OK)
	b.Crash(0)
	wantFiles(t, "the one", a, "f=1234567")
	wantFiles(t, "the other", b, "f=8")
	wantErrno(t, "Append", a.Append("f", []byte("890")), api.OK)
	wantErrno(t, "Append", b.Append("f", []byte("890")), api.ErrFull)
	a.Crash(0)
	wantFiles(t, "the one", a, "f=")
	wantFiles(t, "the other", b, "f=8")
}

func TestP603ArgumentsAreNeitherChangedNorKept(t *testing.T) {
	d := New(100)
	in := []byte("abcdef")
	wantErrno(t, "Append", d.Append("f", in[:2]), api.OK)
	wantErrno(t, "Append", d.Append("f", in[3:4]), api.OK)
	wantErrno(t, "Append", d.Append("f", nil), api.OK)
	if string(in) != "abcdef" {
		t.Errorf("Append changed its argument: %q", in)
	}
	in[0], in[3] = 'x', 'x'
	wantFiles(t, "Append", d, "f=abd")
	l := []int{1, 0, 7, 0}
	d.Fail(l[:3])
	l[0], l[1] = 0, 1
	wantErrno(t, "Sync", d.Sync("f"), api.ErrIO)
	wantErrno(t, "Sync", d.Sync("f"), api.OK)
	wantErrno(t, "Sync", d.Sync("f"), api.ErrIO)
	if !slices.Equal(l, []int{0, 1, 7, 0}) {
		t.Errorf("Fail changed its argument: %v", l)
	}
}

func TestP603ResultsAreNew(t *testing.T) {
	d := with(t, 100, "f=0123456789", "g=ab")
	wantErrno(t, "Append", d.Append("f", []byte("x")), api.OK)
	one, _ := d.Read("f", 2, 3)
	two, _ := d.Read("f", 2, 3)
	one[0] = 'y'
	one = append(one, "zzzzzzzzzzzz"...)
	clear(one[:cap(one)])
	empty, _ := d.Read("f", 0, 0)
	clear(empty[:cap(empty)])
	if string(two) != "234" {
		t.Errorf("a result changed another one: %q", two)
	}
	names := d.List()
	names[0] = "z"
	names = append(names[:1], "y")
	wantFiles(t, "results that were changed", d, "f=0123456789x", "g=ab")
	part, _ := d.Read("f", 0, 3)
	wantErrno(t, "Append", d.Append("f", []byte("w")), api.OK)
	wantErrno(t, "Append", d.Append("f", part), api.OK)
	d.Crash(1)
	if string(part) != "012" || names[1] != "y" {
		t.Errorf("a result was changed: %q, %q", part, names)
	}
	wantFiles(t, "what was read and appended", d, "f=0123456789x", "g=ab")
}

// A cell is a byte of the chapter's file.
type cell struct {
	c      byte
	synced bool
}

// A model is a disk that takes the chapter's words one by one, with lists that
// it goes through.
type model struct {
	names  []string
	cells  [][]cell
	room   int
	armed  []int
	failed int
}

func (m *model) used() int { return len(slices.Concat(m.cells...)) }

func (m *model) named(names ...string) api.Errno {
	if len(m.armed) > 0 {
		x := m.armed[0]
		m.armed = m.armed[1:]
		if x != 0 {
			m.failed++
			return api.ErrIO
		}
	}
	for _, name := range names {
		if strings.Trim(name, nameBytes) != "" || name == "" || len(name) > 40 {
			return api.ErrName
		}
	}
	return api.OK
}

func (m *model) on(names ...string) (int, api.Errno) {
	if e := m.named(names...); e != api.OK {
		return -1, e
	}
	at := slices.Index(m.names, names[0])
	if at < 0 {
		return -1, api.ErrNone
	}
	return at, api.OK
}

func (m *model) remove(at int) {
	m.names, m.cells = slices.Delete(m.names, at, at+1), slices.Delete(m.cells, at, at+1)
}

func (m *model) append(name string, b []byte) api.Errno {
	if e := m.named(name); e != api.OK {
		return e
	}
	if m.used()+len(b) > max(m.room, 0) {
		return api.ErrFull
	}
	at := slices.Index(m.names, name)
	if at < 0 {
		at = len(m.names)
		m.names, m.cells = append(m.names, name), append(m.cells, nil)
	}
	for _, c := range b {
		m.cells[at] = append(m.cells[at], cell{c: c})
	}
	return api.OK
}

func (m *model) sync(name string) api.Errno {
	at, e := m.on(name)
	if e == api.OK {
		for i := range m.cells[at] {
			m.cells[at][i].synced = true
		}
	}
	return e
}

func (m *model) rename(from, to string) api.Errno {
	at, e := m.on(from, to)
	if e != api.OK || from == to {
		return e
	}
	m.names[at] = ""
	if other := slices.Index(m.names, to); other >= 0 {
		m.remove(other)
	}
	m.names[slices.Index(m.names, "")] = to
	return api.OK
}

func (m *model) read(name string, from, n int) (string, api.Errno) {
	at, e := m.on(name)
	if e == api.OK && (from < 0 || n < 0 || from > len(m.cells[at])) {
		e = api.ErrArg
	}
	out := ""
	for i := from; e == api.OK && i < len(m.cells[at]) && len(out) < n; i++ {
		out += string([]byte{m.cells[at][i].c})
	}
	return out, e
}

func (m *model) crash(keep int) {
	for at, l := range m.cells {
		var left []cell
		kept := 0
		for _, x := range l {
			if !x.synced {
				if kept >= keep {
					break
				}
				kept++
			}
			left = append(left, cell{c: x.c, synced: true})
		}
		m.cells[at] = left
	}
}

// TestP603ScriptsHaveTheChaptersResults plays long scripts on a disk and on the model.
func TestP603ScriptsHaveTheChaptersResults(t *testing.T) {
	x := uint32(1)
	next := func(n int) int {
		x = x*1664525 + 1013904223
		return int(x>>8) % n
	}
	names := []string{"a", "b", "c", "A.1", "z-2", "a", "b", "", "no name"}
	letters := "abcdefghijklmnopqrstuvwxyz"
	count := map[api.Errno]int{}
	for script := range 300 {
		room := next(60) - 5
		d, m := New(room), &model{room: room}
		for step := range 200 {
			name, other := names[next(len(names))], names[next(len(names))]
			at, n := next(20)-3, next(12)-1
			var got, want string
			var e, f api.Errno
			switch next(11) {
			case 0, 1, 2, 3:
				b := []byte(letters[:max(n, 0)])
				e, f = d.Append(name, b), m.append(name, b)
			case 4, 5:
				e, f = d.Sync(name), m.sync(name)
			case 6:
				e, f = d.Rename(name, other), m.rename(name, other)
			case 7:
				e = d.Remove(name)
				var i int
				if i, f = m.on(name); f == api.OK {
					m.remove(i)
				}
			case 8:
				var b []byte
				b, e = d.Read(name, at, n)
				got = string(b)
				want, f = m.read(name, at, n)
			case 9:
				d.Crash(n)
				m.crash(n)
			case 10:
				l := make([]int, next(8))
				if len(l) > 0 {
					l[next(len(l))] = next(3) - 1
				}
				d.Fail(l)
				m.armed = slices.Clone(l)
			}
			count[e]++
			sorted := slices.Sorted(slices.Values(m.names))
			if e != f || got != want || !slices.Equal(d.List(), sorted) || d.Used() != m.used() || d.Failed() != m.failed {
				t.Fatalf("script %d, step %d: %q, %d, want %q, %d; %q, used %d, failed %d, want %q, used %d, failed %d", script, step, got, e, want, f, d.List(), d.Used(), d.Failed(), sorted, m.used(), m.failed)
			}
		}
		d.Fail(nil)
		m.armed = nil
		var files []string
		for _, name := range slices.Sorted(slices.Values(m.names)) {
			data, _ := m.read(name, 0, 1000)
			files = append(files, name+"="+data)
		}
		wantFiles(t, "script "+strconv.Itoa(script), d, files...)
	}
	for _, e := range []api.Errno{api.OK, api.ErrIO, api.ErrName, api.ErrNone, api.ErrFull, api.ErrArg} {
		if count[e] < 200 {
			t.Errorf("%d of the calls give %d", count[e], e)
		}
	}
}

func TestP603DisksOfOneScriptAreAlike(t *testing.T) {
	play := func() string {
		d := New(500)
		told := ""
		for i := range 200 {
			name := "n" + strconv.Itoa(i*7%23)
			told += strconv.Itoa(int(d.Append(name, make([]byte, i%11)))) + " "
			if i%5 == 0 {
				d.Crash(i % 4)
			}
			if i%9 == 0 {
				told += strconv.Itoa(int(d.Remove("n" + strconv.Itoa(i%23))))
			}
			told += strings.Join(d.List(), ",") + strconv.Itoa(d.Used()) + "\n"
		}
		return told
	}
	first := play()
	for range 20 {
		if play() != first {
			t.Fatal("a script has two results")
		}
	}
}
