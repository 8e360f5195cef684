package manifest

import (
	"bytes"
	"maps"
	"math"
	"math/big"
	"math/rand"
	"regexp"
	"slices"
	"strconv"
	"strings"
	"testing"

	"buttery/api"
	"buttery/disk"
	"buttery/edit"
	"buttery/frame"
	"buttery/version"
)

const top = 1 << 40

func run(file int, seq uint64) api.Run {
	return api.Run{File: file, Bytes: 100 + file%1000, Count: 3, First: []byte("a" + strconv.Itoa(file)), Last: []byte("b"), Seq: seq}
}

// add adds a run to a version that has none of this file or of a greater one.
func add(file int) api.Edit {
	seq := uint64(10 * file)
	return api.Edit{Add: []api.Run{run(file, seq)}, Next: file + 1, Seq: seq}
}

func first() api.Edit { return api.Edit{Next: 1} }

// many is a version of n runs.
func many(n int) api.Version {
	v := api.Version{Next: 5000, Log: 4999, Seq: 100_000}
	for i := range n {
		v.Runs = append(v.Runs, run(1+(i*7)%1009, uint64(9000-3*i)))
	}
	return v
}

// editsOf is edits that make v, each of which adds a few runs.
func editsOf(v api.Version) []api.Edit {
	l := []api.Edit{{Next: v.Next, Log: v.Log, Seq: v.Seq}}
	for end := len(v.Runs); end > 0; end -= 70 {
		l = append(l, api.Edit{Add: v.Runs[max(0, end-70):end]})
	}
	return l
}

func logOf(l ...api.Edit) string {
	var records []string
	for _, e := range l {
		records = append(records, string(edit.Bytes(e)))
	}
	return logOfRecords(records...)
}

func logOfRecords(l ...string) string {
	var b []byte
	for _, r := range l {
		b = append(b, frame.Put(len(b), []byte(r))...)
	}
	return string(b)
}

// fold applies edits, all of which can be applied, to the version with Next 1.
func fold(t *testing.T, l ...api.Edit) api.Version {
	t.Helper()
	v := api.Version{Next: 1}
	for _, e := range l {
		v = applied(t, v, e)
	}
	return v
}

func applied(t *testing.T, v api.Version, e api.Edit) api.Version {
	t.Helper()
	w, errno := version.Apply(v, e)
	if errno != api.OK {
		t.Fatalf("Apply(%v, %v) = %d", v, e, errno)
	}
	return w
}

func sameRun(a, b api.Run) bool {
	return a.File == b.File && a.Bytes == b.Bytes && a.Count == b.Count &&
		bytes.Equal(a.First, b.First) && bytes.Equal(a.Last, b.Last) && a.Seq == b.Seq
}

func same(a, b api.Version) bool {
	return slices.EqualFunc(a.Runs, b.Runs, sameRun) && a.Next == b.Next && a.Log == b.Log && a.Seq == b.Seq
}

// with is a disk with files, each written as name=content; they are synced.
func with(t *testing.T, files ...string) *disk.Disk {
	t.Helper()
	d := disk.New(math.MaxInt)
	put(t, d, files...)
	return d
}

func put(t *testing.T, d *disk.Disk, files ...string) {
	t.Helper()
	for _, f := range files {
		name, content, _ := strings.Cut(f, "=")
		if d.Append(name, []byte(content)) != api.OK || d.Sync(name) != api.OK {
			t.Fatalf("the disk does not take %q", name)
		}
	}
}

// withLog is a disk with nothing but a manifest file, which is the current one.
func withLog(t *testing.T, log string) *disk.Disk {
	t.Helper()
	return with(t, "CURRENT=MANIFEST-5\n", "MANIFEST-5="+log)
}

// content is all files of a disk without armed failures.
func content(d *disk.Disk) map[string]string {
	m := map[string]string{}
	for _, name := range d.List() {
		b, _ := d.Read(name, 0, math.MaxInt)
		m[name] = string(b)
	}
	return m
}

// copied is a disk with the same files, synced, and this room.
func copied(t *testing.T, d *disk.Disk, room int) *disk.Disk {
	t.Helper()
	c := disk.New(room)
	for name, b := range content(d) {
		put(t, c, name+"="+b)
	}
	return c
}

// fail lets the call fail ahead of which there are k others.
func fail(d *disk.Disk, k int) { d.Fail(append(make([]int, k), 1)) }

// die lets all calls but the next k fail.
func die(d *disk.Disk, k int) { d.Fail(append(make([]int, k), slices.Repeat([]int{1}, 5000)...)) }

// calls tells how many calls of the disk that take names f has; f has to make a disk on
// which it does the same each time.
func calls(t *testing.T, f func() (*disk.Disk, func())) int {
	t.Helper()
	for k := range 5000 {
		d, act := f()
		fail(d, k)
		act()
		if d.Failed() == 0 {
			return k
		}
	}
	t.Fatal("calls without an end")
	return 0
}

func open(t *testing.T, d *disk.Disk) *Manifest {
	t.Helper()
	m, e := Open(d)
	if e != api.OK || m == nil {
		t.Fatalf("Open = %v, %d", m, e)
	}
	return m
}

func apply(t *testing.T, m *Manifest, l ...api.Edit) {
	t.Helper()
	for _, e := range l {
		wantErrno(t, "Apply", m.Apply(e), api.OK)
	}
}

// opened is the manifest of a version on a disk of its own, without any record but those
// of a Switch.
func opened(t *testing.T, v api.Version) (*disk.Disk, *Manifest) {
	t.Helper()
	d := withLog(t, logOf(editsOf(v)...))
	m := open(t, d)
	wantErrno(t, "Switch", m.Switch(), api.OK)
	return d, m
}

func wantErrno(t *testing.T, what string, got, want api.Errno) {
	t.Helper()
	if got != want {
		t.Errorf("%s = %d, want %d", what, got, want)
	}
}

func wantVersion(t *testing.T, what string, m *Manifest, want api.Version) {
	t.Helper()
	if got := m.Version(); !same(got, want) {
		t.Errorf("%s: Version = %v, want %v", what, got, want)
	}
}

// wantOpen opens a disk without armed failures, before and after a crash.
func wantOpen(t *testing.T, what string, d *disk.Disk, want api.Version) {
	t.Helper()
	wantVersion(t, what, open(t, d), want)
	d.Crash(0)
	wantVersion(t, what+", crash", open(t, d), want)
}

// wantFiles is for disks without armed failures.
func wantFiles(t *testing.T, what string, d *disk.Disk, want ...string) {
	t.Helper()
	var got []string
	for name, b := range content(d) {
		got = append(got, name+"="+b)
	}
	slices.Sort(got)
	slices.Sort(want)
	if !slices.Equal(got, want) {
		t.Errorf("%s: files %.1000q, want %.1000q", what, got, want)
	}
}

func wantContent(t *testing.T, what string, d *disk.Disk, want map[string]string) {
	t.Helper()
	if got := content(d); !maps.Equal(got, want) {
		t.Errorf("%s: files %.1000q, want %.1000q", what, got, want)
	}
}

// wantNotOpen also sees to it that the disk stays as it is.
func wantNotOpen(t *testing.T, what string, d *disk.Disk, want api.Errno) {
	t.Helper()
	before := content(d)
	if m, e := Open(d); m != nil || e != want {
		t.Errorf("%s: Open = %v, %d, want %d", what, m, e, want)
	}
	wantContent(t, what, d, before)
}

var nameForm = regexp.MustCompile(`^MANIFEST-([1-9][0-9]*)$`)

// chapterNumber is the number of a manifest file, or 0.
func chapterNumber(name string) int {
	parts := nameForm.FindStringSubmatch(name)
	if parts == nil {
		return 0
	}
	n, _ := new(big.Int).SetString(parts[1], 10)
	if n.Cmp(big.NewInt(top)) > 0 {
		return 0
	}
	return int(n.Int64())
}

// chapterOpen takes the version from files that have a CURRENT, and whether the end of
// the manifest file is torn.
func chapterOpen(files map[string]string) (api.Version, bool, api.Errno) {
	name := strings.TrimSuffix(files["CURRENT"], "\n")
	log, exists := files[name]
	if name+"\n" != files["CURRENT"] || chapterNumber(name) == 0 || !exists {
		return api.Version{}, false, api.ErrBad
	}
	v := api.Version{Next: 1}
	records, _, class := frame.All([]byte(log))
	for _, r := range records {
		e, errno := edit.Read(r)
		w, errno2 := version.Apply(v, e)
		if errno != api.OK || errno2 != api.OK {
			return api.Version{}, false, api.ErrBad
		}
		v = w
	}
	if class == api.EndBad {
		return api.Version{}, false, api.ErrBad
	}
	return v, class == api.EndTorn, api.OK
}

// chapterSwitch is the files after a Switch.
func chapterSwitch(files map[string]string, v api.Version) map[string]string {
	out := map[string]string{}
	n := 0
	for name, b := range files {
		n = max(n, chapterNumber(name))
		if chapterNumber(name) == 0 && name != "CURRENT.new" {
			out[name] = b
		}
	}
	name := "MANIFEST-" + strconv.Itoa(n+1)
	var l []api.Edit
	rest := v.Runs
	for len(rest) > 100 {
		l = append(l, api.Edit{Add: rest[len(rest)-100:], Next: v.Next, Log: v.Log, Seq: v.Seq})
		rest = rest[:len(rest)-100]
	}
	l = append(l, api.Edit{Add: rest, Next: v.Next, Log: v.Log, Seq: v.Seq})
	if len(v.Runs) == 0 {
		l = []api.Edit{{Next: v.Next, Log: v.Log, Seq: v.Seq}}
	}
	out["CURRENT"], out[name] = name+"\n", logOf(l...)
	return out
}

// wantAsChapter opens the disk, whose CURRENT exists, and applies an edit.
func wantAsChapter(t *testing.T, what string, d *disk.Disk) api.Errno {
	t.Helper()
	files := content(d)
	v, torn, want := chapterOpen(files)
	if want != api.OK {
		wantNotOpen(t, what, d, want)
		return want
	}
	m := open(t, d)
	wantVersion(t, what, m, v)
	wantContent(t, what, d, files)
	e := api.Edit{Next: min(v.Next+1, top)}
	apply(t, m, e)
	if torn {
		files = chapterSwitch(files, v)
	}
	name := strings.TrimSuffix(files["CURRENT"], "\n")
	files[name] += string(frame.Put(len(files[name]), edit.Bytes(e)))
	wantContent(t, what+", Apply", d, files)
	wantOpen(t, what+", Apply", d, applied(t, v, e))
	return api.OK
}

// names are none of manifest files; the disk takes all of them.
func otherNames() []string {
	return []string{
		"MANIFEST", "MANIFEST-", "MANIFEST-0", "MANIFEST-00", "MANIFEST-07", "MANIFEST--7", "MANIFEST--", "MANIFEST-7.", "MANIFEST-7.0", "MANIFEST-.7", "MANIFEST-1e3", "MANIFEST-0x7", "MANIFEST-7-", "MANIFEST-7a", "MANIFEST-a7", "MANIFEST-x",
		"MANIFEST-1099511627777", "MANIFEST-1099511627780", "MANIFEST-9999999999999", "MANIFEST-9223372036854775807", "MANIFEST-9223372036854775808", "MANIFEST-18446744073709551617", "MANIFEST-1" + strings.Repeat("0", 30),
		"MANIFEST7", "MANIFEST.7", "manifest-7", "Manifest-7", "XMANIFEST-7", "-7", "7", "MANIFEST-MANIFEST-7", "CURRENT.old", "CURRENT.new.", "current", "CURRENT-7", "000001.log",
	}
}

// greatKeys makes a version's records as long as they can be.
func greatKeys(v api.Version) api.Version {
	for i := range v.Runs {
		r := &v.Runs[i]
		r.First = bytes.Repeat([]byte{byte(i)}, api.MaxKey)
		r.Last = bytes.Repeat([]byte{255}, api.MaxKey)
		r.Bytes, r.Count = api.MaxFile, api.MaxFile
	}
	return v
}

func TestP1801ExampleNewManifest(t *testing.T) {
	d := disk.New(1000)
	m := open(t, d)
	wantVersion(t, "new", m, api.Version{Next: 1})
	wantFiles(t, "new", d, "CURRENT=MANIFEST-1\n", "MANIFEST-1="+logOf(first()))
	wantOpen(t, "again", d, api.Version{Next: 1})
	wantFiles(t, "again", d, "CURRENT=MANIFEST-1\n", "MANIFEST-1="+logOf(first()))
}

func TestP1801OtherFilesAreIgnored(t *testing.T) {
	var files []string
	for _, name := range otherNames() {
		if chapterNumber(name) != 0 {
			t.Errorf("%q is a manifest file's name", name)
		}
		files = append(files, name+"=junk")
		d := with(t, name+"=junk")
		wantVersion(t, name, open(t, d), api.Version{Next: 1})
		wantFiles(t, name, d, name+"=junk", "CURRENT=MANIFEST-1\n", "MANIFEST-1="+logOf(first()))
		d = with(t, name+"="+logOf(first()), "CURRENT="+name+"\n")
		wantNotOpen(t, name, d, api.ErrBad)
	}
	d := with(t, files...)
	m := open(t, d)
	apply(t, m, add(1))
	wantErrno(t, "Switch", m.Switch(), api.OK)
	v := fold(t, add(1))
	wantFiles(t, "all", d, append(files, "CURRENT=MANIFEST-2\n", "MANIFEST-2="+logOf(api.Edit{Add: v.Runs, Next: 2, Seq: 10}))...)
}

func TestP1801OpenWithoutCurrent(t *testing.T) {
	for _, l := range [][]int{{1}, {2}, {9}, {10}, {9, 10}, {10, 9}, {99, 100, 7}, {1, 2, 3, 4, 5}, {1 << 32}, {1<<32 + 5, 6}, {top - 1}, {5, top - 1}} {
		d := with(t, "CURRENT.new=MANIFEST-3\n", "other=x")
		for _, n := range l {
			put(t, d, "MANIFEST-"+strconv.Itoa(n)+"="+logOf(first(), add(3)))
		}
		want := chapterSwitch(content(d), api.Version{Next: 1})
		name := "MANIFEST-" + strconv.Itoa(slices.Max(l)+1)
		if want["CURRENT"] != name+"\n" || len(want) != 3 {
			t.Fatalf("the chapter's words make %q", want)
		}
		wantVersion(t, name, open(t, d), api.Version{Next: 1})
		wantContent(t, name, d, want)
		wantOpen(t, name, d, api.Version{Next: 1})
	}
}

func TestP1801TheContentOfCurrent(t *testing.T) {
	log := logOf(first(), add(1), add(2))
	v := fold(t, add(1), add(2))
	good := []string{"MANIFEST-1\n", "MANIFEST-5\n", "MANIFEST-10\n", "MANIFEST-1000000\n", "MANIFEST-4294967296\n", "MANIFEST-1099511627775\n", "MANIFEST-1099511627776\n"}
	for _, current := range good {
		name := strings.TrimSuffix(current, "\n") + "=" + log
		for _, more := range []string{"\n", "x", " ", "0", "\x00", current} {
			wantNotOpen(t, strconv.Quote(current+more), with(t, "CURRENT="+current+more, name), api.ErrBad)
		}
		d := with(t, "CURRENT="+current, name)
		before := content(d)
		wantOpen(t, current, d, v)
		wantContent(t, current, d, before)
	}
	for _, current := range []string{
		"", "\n", "\n\n", "MANIFEST-5", "MANIFEST-5\n\n", "\nMANIFEST-5\n", "MANIFEST-5 \n", " MANIFEST-5\n", "MANIFEST-5\r\n", "MANIFEST-5\x00\n", "MANIFEST-5\n\x00", "MANIFEST-5\nMANIFEST-5\n", "MANIFEST-5\nMANIFEST-5", "MANIFEST-5\n" + strings.Repeat("x", 100000), "MANIFEST-5\n" + strings.Repeat("\n", 1000),
		"MANIFEST-05\n", "MANIFEST-+5\n", "MANIFEST--5\n", "MANIFEST- 5\n", "MANIFEST-5_0\n", "MANIFEST-0\n", "MANIFEST-\n", "MANIFEST\n", "5\n", "manifest-5\n", "MANIFEST-0x5\n", "MANIFEST-5.0\n", "MANIFEST-５\n", "MANIFEST-1099511627777\n", "MANIFEST-18446744073709551621\n", "MANIFEST-" + strings.Repeat("9", 1000) + "\n", "MANIFEST-" + strings.Repeat("0", 1000) + "5\n",
		"CURRENT\n", "other\n", "MANIFEST-6\n", "MANIFEST-55\n", "MANIFEST-1099511627776\n",
	} {
		d := with(t, "CURRENT="+current, "MANIFEST-5="+log, "other="+log, "MANIFEST-05="+log, "MANIFEST--5="+log, "MANIFEST-0="+log, "MANIFEST-="+log, "MANIFEST-1099511627777="+log)
		wantNotOpen(t, strconv.Quote(current), d, api.ErrBad)
	}
}

// TestP1801EveryByteOfCurrent replaces, inserts and removes each byte.
func TestP1801EveryByteOfCurrent(t *testing.T) {
	const current = "MANIFEST-52\n"
	log := logOf(first(), add(1))
	errnos := map[api.Errno]int{}
	try := func(s string) {
		d := with(t, "CURRENT="+s, "MANIFEST-52="+log, "MANIFEST-2="+log, "MANIFEST-5="+log, "MANIFEST-53="+log, "MANIFEST-152="+log, "MANIFEST-72="+log)
		_, _, want := chapterOpen(content(d))
		m, e := Open(d)
		if e != want || (m == nil) != (e != api.OK) {
			t.Errorf("CURRENT is %q: Open = %v, %d, want %d", s, m, e, want)
		}
		errnos[e]++
	}
	for i := range len(current) + 1 {
		for c := range 256 {
			try(current[:i] + string([]byte{byte(c)}) + current[i:])
			if i < len(current) {
				try(current[:i] + string([]byte{byte(c)}) + current[i+1:])
			}
		}
		try(current[:i])
		if i < len(current) {
			try(current[:i] + current[i+1:])
		}
	}
	if errnos[api.OK] <= len(current) || errnos[api.ErrBad] < 256*len(current) {
		t.Errorf("Open = %v", errnos)
	}
}

func TestP1801TheManifestFileIsAppliedInOrder(t *testing.T) {
	drop := api.Edit{Add: []api.Run{run(5, 15)}, Drop: []int{1, 2}, Next: 9, Log: 8}
	for _, l := range [][]api.Edit{
		nil,
		{first()},
		{{}},
		{{}, {}, {}},
		{{Next: top, Log: top, Seq: api.MaxSeq}},
		{{Log: 7}, {Seq: 5}, {Next: 3}, {Log: 9}},
		{first(), add(1), add(2), drop},
		{add(1), add(2), add(3), {Drop: []int{2}}, add(4), {Drop: []int{4, 1, 3}}},
		{add(1), {Drop: []int{1}}, {Add: []api.Run{run(1, 7)}, Seq: 10}},
	} {
		wantOpen(t, "edits", withLog(t, logOf(l...)), fold(t, l...))
		wantAsChapter(t, "edits", withLog(t, logOf(l...)))
	}
	for _, n := range []int{0, 1, 70, 100, 101, 999, 1000} {
		wantOpen(t, "many runs", withLog(t, logOf(editsOf(many(n))...)), many(n))
	}
	v := greatKeys(many(1000))
	wantOpen(t, "great runs", withLog(t, logOf(editsOf(v)...)), v)
}

func TestP1801OtherManifestFilesAreNotRead(t *testing.T) {
	d := with(t, "CURRENT=MANIFEST-5\n", "CURRENT.new=MANIFEST-6\n", "MANIFEST-5="+logOf(add(1)), "MANIFEST-6="+logOf(add(2)), "MANIFEST-4=junk", "MANIFEST-05=junk")
	before := content(d)
	wantOpen(t, "Open", d, fold(t, add(1)))
	wantContent(t, "Open", d, before)
	apply(t, open(t, d), add(3))
	before["MANIFEST-5"] = logOf(add(1), add(3))
	wantContent(t, "Apply", d, before)
}

func TestP1801RecordsThatAreNoEdits(t *testing.T) {
	e := string(edit.Bytes(add(2)))
	for _, bad := range []string{
		"", "x", e + "\x00", e[:len(e)-1], e[1:], "\x00\x00\x00\x00", "\x00\x00\x00\x00\x00\x00", "\x65", "\x80\x00\x00\x00\x00\x00", strings.Repeat("x", 300),
		"\x00\x02\x05\x05\x00\x00\x00", "\x00\x01\x00\x00\x00\x00",
	} {
		if _, errno := edit.Read([]byte(bad)); errno == api.OK {
			t.Fatalf("%q is an edit", bad)
		}
		records := []string{string(edit.Bytes(first())), string(edit.Bytes(add(1))), e}
		for i := range len(records) + 1 {
			log := logOfRecords(slices.Insert(slices.Clone(records), i, bad)...)
			wantNotOpen(t, "no edit", withLog(t, log), api.ErrBad)
			// A torn end, or a bad one, makes nothing of it good.
			wantNotOpen(t, "no edit, torn", withLog(t, log+"\x00"), api.ErrBad)
			wantNotOpen(t, "no edit, bad", withLog(t, log+strings.Repeat("\x00", 300)), api.ErrBad)
		}
	}
}

func TestP1801EditsThatCanNotBeApplied(t *testing.T) {
	var l []api.Edit
	for _, x := range []struct {
		e    api.Edit
		want api.Errno
	}{
		{api.Edit{Drop: []int{9}}, api.ErrNone},
		{api.Edit{Add: []api.Run{run(2, 40)}, Seq: 40}, api.ErrTwice},
		{api.Edit{Drop: []int{1, 3}}, api.ErrOrder},
		{api.Edit{Next: 3}, api.ErrOrder},
		{api.Edit{Log: 1}, api.ErrOrder},
		{api.Edit{Seq: 29}, api.ErrOrder},
		{api.Edit{Add: []api.Run{run(4, 40)}, Seq: 40}, api.ErrOrder},
		{api.Edit{Add: []api.Run{run(4, 40)}, Next: 5}, api.ErrOrder},
		{api.Edit{Add: []api.Run{run(4, 30)}, Next: 5, Seq: 40}, api.ErrOrder},
	} {
		before := []api.Edit{add(1), add(2), add(3), {Log: 2}}
		if _, e := version.Apply(fold(t, before...), x.e); e != x.want {
			t.Fatalf("Apply = %d, want %d", e, x.want)
		}
		l = append(before, x.e)
		wantNotOpen(t, "no version", withLog(t, logOf(l...)), api.ErrBad)
		l = append(l, api.Edit{}, api.Edit{Next: 10, Log: 10, Seq: 90})
		wantNotOpen(t, "no version", withLog(t, logOf(l...)), api.ErrBad)
		wantNotOpen(t, "no version, torn", withLog(t, logOf(l...)+"\x00"), api.ErrBad)
		wantAsChapter(t, "alone", withLog(t, logOf(x.e)))
	}
	l = append(editsOf(many(1000)), api.Edit{Add: []api.Run{run(4000, 9999)}})
	wantNotOpen(t, "too many runs", withLog(t, logOf(l...)), api.ErrBad)
}

func TestP1801LogsCutAnywhere(t *testing.T) {
	log := logOf(first(), add(1), add(2), api.Edit{Log: 5}, api.Edit{Drop: []int{1}, Next: 20}, add(30), api.Edit{Seq: 900, Next: 4000}, add(4000), api.Edit{})
	torn := 0
	for n := range len(log) + 1 {
		if _, _, class := frame.All([]byte(log[:n])); class == api.EndTorn {
			torn++
		}
		d := withLog(t, log[:n])
		if e := wantAsChapter(t, "cut to "+strconv.Itoa(n), d); e != api.OK {
			t.Errorf("cut to %d: %d", n, e)
		}
	}
	if torn < len(log)/2 || torn > len(log)-9 {
		t.Errorf("%d of %d are torn", torn, len(log))
	}
}

func TestP1801EveryBitOfALog(t *testing.T) {
	log := logOf(first(), add(1), add(2), api.Edit{Log: 5}, api.Edit{Add: editsOf(many(3))[1].Add, Next: 2000, Seq: 9000}, api.Edit{Drop: []int{1}})
	errnos := map[api.Errno]int{}
	for bit := range 8 * len(log) {
		b := []byte(log)
		b[bit/8] ^= 1 << (bit % 8)
		errnos[wantAsChapter(t, "bit "+strconv.Itoa(bit), withLog(t, string(b)))]++
	}
	if errnos[api.OK] == 0 || errnos[api.ErrBad] < 4*len(log) {
		t.Errorf("Open = %v", errnos)
	}
}

func TestP1801ATornEndIsPassedOver(t *testing.T) {
	v := fold(t, add(1), add(2))
	log := logOf(add(1), add(2))
	torn := log + logOf(add(3))[:9]
	switched := chapterSwitch(map[string]string{"MANIFEST-5": ""}, v)

	// Open alone changes nothing, however often.
	d := withLog(t, torn)
	for range 3 {
		wantOpen(t, "Open", d, v)
		wantFiles(t, "Open", d, "CURRENT=MANIFEST-5\n", "MANIFEST-5="+torn)
	}
	// Nor does an edit that can't be applied.
	m := open(t, d)
	for _, e := range []api.Edit{{Next: -1}, {Drop: []int{3}}, {Next: 1}} {
		_, want := version.Apply(v, e)
		wantErrno(t, "Apply", m.Apply(e), want)
	}
	wantFiles(t, "Apply refused", d, "CURRENT=MANIFEST-5\n", "MANIFEST-5="+torn)
	// The Switch comes ahead of the edit, and once.
	apply(t, m, add(3))
	apply(t, m, add(4))
	file := switched["MANIFEST-6"]
	for _, e := range []api.Edit{add(3), add(4)} {
		file += string(frame.Put(len(file), edit.Bytes(e)))
	}
	wantFiles(t, "Apply", d, "CURRENT=MANIFEST-6\n", "MANIFEST-6="+file)
	// A Switch that is asked for is the one that was outstanding.
	d = withLog(t, torn)
	m = open(t, d)
	wantErrno(t, "Switch", m.Switch(), api.OK)
	wantContent(t, "Switch", d, switched)
	apply(t, m, add(3), add(4))
	wantFiles(t, "Switch, Apply", d, "CURRENT=MANIFEST-6\n", "MANIFEST-6="+file)
}

func TestP1801PaddingIsNotTorn(t *testing.T) {
	// The log leaves so many bytes of its first block.
	for left := 1; left < 7; left++ {
		r := run(1, 10)
		r.First = nil
		for len(logOf(api.Edit{Add: []api.Run{r}, Next: 2, Seq: 10})) != 128-left || len(r.First) == 0 {
			r.First = append(r.First, 'a')
		}
		e := api.Edit{Add: []api.Run{r}, Next: 2, Seq: 10}
		for n := range left + 1 {
			log := logOf(e) + strings.Repeat("\x00", n)
			d := withLog(t, log)
			m := open(t, d)
			apply(t, m, add(3))
			wantFiles(t, "padding", d, "CURRENT=MANIFEST-5\n", "MANIFEST-5="+logOf(e, add(3)))
			wantOpen(t, "padding", d, fold(t, e, add(3)))
		}
		wantNotOpen(t, "other bytes", withLog(t, logOf(e)+"\x01"), api.ErrBad)
	}
}

func TestP1801OpenOfAnOldDiskWhenItFails(t *testing.T) {
	for _, log := range []string{"", logOf(add(1), add(2)), logOf(add(1), add(2))[:40]} {
		v, _, _ := chapterOpen(map[string]string{"CURRENT": "MANIFEST-5\n", "MANIFEST-5": log})
		n := calls(t, func() (*disk.Disk, func()) {
			d := withLog(t, log)
			return d, func() { Open(d) }
		})
		if n < 2 {
			t.Errorf("Open has %d calls", n)
		}
		for k := range n {
			d := withLog(t, log)
			before := content(d)
			fail(d, k)
			if m, e := Open(d); m != nil || e != api.ErrIO || d.Failed() != 1 {
				t.Errorf("call %d fails: Open = %v, %d", k, m, e)
			}
			wantContent(t, "Open", d, before)
			wantOpen(t, "Open again", d, v)
		}
	}
	// What is wrong is not told where the disk doesn't let it be seen.
	d := with(t, "CURRENT=junk")
	fail(d, 0)
	if m, e := Open(d); m != nil || e != api.ErrIO {
		t.Errorf("a bad CURRENT: Open = %v, %d", m, e)
	}
	wantNotOpen(t, "a bad CURRENT", d, api.ErrBad)
}

func TestP1801OpenOfANewDiskWhenItFails(t *testing.T) {
	start := func(files []string) (*disk.Disk, func()) {
		d := with(t, files...)
		return d, func() { Open(d) }
	}
	for _, files := range [][]string{nil, {"other=x"}, {"MANIFEST-7=junk", "CURRENT.new=junk"}} {
		n := calls(t, func() (*disk.Disk, func()) { return start(files) })
		for k := range n {
			d, _ := start(files)
			fail(d, k)
			m, e := Open(d)
			d.Fail(nil)
			if _, exists := content(d)["CURRENT"]; exists != (e == api.OK) || e != api.OK && (e != api.ErrIO || m != nil) {
				t.Errorf("call %d fails: Open = %v, %d, files %q", k, m, e, d.List())
			}
			d.Crash(0)
			wantOpen(t, "Open again", d, api.Version{Next: 1})

			d, _ = start(files)
			die(d, k)
			if m, e := Open(d); e != api.OK && (e != api.ErrIO || m != nil) || k < 5 && e == api.OK {
				t.Errorf("%d calls, then none: Open = %v, %d", k, m, e)
			}
			d.Fail(nil)
			d.Crash(0)
			m = open(t, d)
			wantVersion(t, "Open again", m, api.Version{Next: 1})
			apply(t, m, add(1))
			wantOpen(t, "Apply", d, fold(t, add(1)))
		}
	}
}

func TestP1801OpenOnAFullDisk(t *testing.T) {
	need := len(logOf(first())) + len("MANIFEST-1\n")
	for room := range need {
		d := disk.New(room)
		for range 3 {
			if m, e := Open(d); m != nil || e != api.ErrFull {
				t.Errorf("room for %d bytes: Open = %v, %d", room, m, e)
			}
			wantFiles(t, "no room", d)
		}
	}
	wantOpen(t, "room enough", disk.New(need), api.Version{Next: 1})
	// An old disk needs no room, torn or not.
	for _, log := range []string{logOf(add(1)), logOf(add(1), add(2))[:30]} {
		d := withLog(t, log)
		full := copied(t, d, d.Used())
		wantVersion(t, "full", open(t, full), fold(t, add(1)))
		wantContent(t, "full", full, content(d))
	}
}

func TestP1801OpenWithTooManyFiles(t *testing.T) {
	for _, n := range []int{998, 999, 1000} {
		d := disk.New(10000)
		for i := range n {
			put(t, d, "n"+strconv.Itoa(i)+"=")
		}
		if n == 998 {
			wantOpen(t, "room for two files", d, api.Version{Next: 1})
			continue
		}
		wantNotOpen(t, "too many files", d, api.ErrLong)
		for i := range n - 998 {
			d.Remove("n" + strconv.Itoa(i))
		}
		wantOpen(t, "room for two files", d, api.Version{Next: 1})
	}
}

// TestP1801WhatOpenTellsIsDurable: the edit of an Apply whose Sync failed may be there, or
// not, but Open has to decide on it.
func TestP1801WhatOpenTellsIsDurable(t *testing.T) {
	for _, keep := range []int{0, 1, 7, 20, 1000} {
		d := disk.New(10000)
		m := open(t, d)
		apply(t, m, add(1))
		fail(d, 2)
		wantErrno(t, "Apply", m.Apply(api.Edit{Drop: []int{1}, Next: 5}), api.ErrIO)
		m = open(t, d)
		v := m.Version()
		d.Crash(keep)
		wantOpen(t, "crash", d, v)
		apply(t, m, add(9))
		d.Crash(keep)
		wantOpen(t, "Apply, crash", d, applied(t, v, add(9)))
	}
}

func TestP1802ApplyAppendsTheEdit(t *testing.T) {
	d := disk.New(1 << 20)
	m := open(t, d)
	l := []api.Edit{first()}
	for _, e := range []api.Edit{
		add(1), add(2), {}, {Log: 2}, {Next: 9}, {Seq: 200}, {Log: 2, Next: 9, Seq: 200}, {Drop: []int{1}}, {Drop: []int{2}}, add(30),
		{Add: []api.Run{run(50, 500), run(31, 310), run(10, 301)}, Next: 51, Seq: 501, Log: 50},
		{Add: []api.Run{run(60, 420)}, Drop: []int{10, 31}, Next: 61}, {Add: many(100).Runs, Drop: []int{60, 30, 50}, Next: 2000, Seq: 9999}, {Next: top, Log: top, Seq: api.MaxSeq}, {}, {},
	} {
		apply(t, m, e)
		l = append(l, e)
		wantVersion(t, "Apply", m, fold(t, l...))
		wantFiles(t, "Apply", d, "CURRENT=MANIFEST-1\n", "MANIFEST-1="+logOf(l...))
		d.Crash(0)
		wantFiles(t, "crash", d, "CURRENT=MANIFEST-1\n", "MANIFEST-1="+logOf(l...))
		wantOpen(t, "crash", d, fold(t, l...))
	}
}

func TestP1802ApplyRefusesWhatTheVersionRefuses(t *testing.T) {
	d := disk.New(1 << 20)
	m := open(t, d)
	apply(t, m, add(1), add(2), add(3), api.Edit{Log: 2})
	v, files := m.Version(), content(d)
	bad := []api.Edit{
		{Next: -1}, {Next: top + 1}, {Log: -1}, {Seq: api.MaxSeq + 1}, {Drop: []int{0}}, {Drop: []int{1, 1}}, {Drop: make([]int, 101)}, {Add: []api.Run{{}}}, {Add: many(101).Runs}, {Next: math.MinInt},
		{Drop: []int{9}}, {Drop: []int{1, 9}}, {Add: []api.Run{run(2, 40)}, Seq: 40}, {Drop: []int{1, 3}}, {Next: 3}, {Log: 1}, {Seq: 29}, {Add: []api.Run{run(4, 40)}, Seq: 40}, {Add: []api.Run{run(4, 40)}, Next: 5},
		{Next: -1, Drop: []int{9}}, {Drop: []int{9}, Add: []api.Run{run(2, 40)}}, {Next: 3, Add: []api.Run{run(2, 40)}},
	}
	errnos := map[api.Errno]bool{}
	for _, e := range bad {
		_, want := version.Apply(v, e)
		errnos[want] = true
		wantErrno(t, "Apply", m.Apply(e), want)
		wantVersion(t, "Apply refused", m, v)
		wantContent(t, "Apply refused", d, files)
		// The disk isn't called: the armed failure is still there.
		fail(d, 0)
		wantErrno(t, "Apply, armed", m.Apply(e), want)
		if d.Size("CURRENT"); d.Failed() == 0 {
			t.Errorf("Apply(%v) calls the disk", e)
		}
		d.Fail(nil)
	}
	if want := map[api.Errno]bool{api.ErrArg: true, api.ErrNone: true, api.ErrTwice: true, api.ErrOrder: true}; !maps.Equal(errnos, want) {
		t.Errorf("Apply = %v, want all of %v", errnos, want)
	}
	apply(t, m, add(4))
	wantFiles(t, "Apply", d, "CURRENT=MANIFEST-1\n", "MANIFEST-1="+logOf(first(), add(1), add(2), add(3), api.Edit{Log: 2}, add(4)))
}

func TestP1802ApplyLimitsRuns(t *testing.T) {
	d, m := opened(t, many(999))
	files := content(d)
	wantErrno(t, "Apply", m.Apply(api.Edit{Add: []api.Run{run(4001, 9002), run(4000, 9001)}}), api.ErrLong)
	wantContent(t, "Apply", d, files)
	apply(t, m, api.Edit{Add: []api.Run{run(4000, 9001)}})
	v := m.Version()
	wantErrno(t, "Apply", m.Apply(api.Edit{Add: []api.Run{run(4001, 9002)}}), api.ErrLong)
	wantVersion(t, "Apply", m, v)
	wantOpen(t, "Apply", d, v)
}

// failing is the disk and the manifest that the tests of failures start with, and the
// edits of its file.
func failing(t *testing.T) (*disk.Disk, *Manifest, []api.Edit) {
	t.Helper()
	d := with(t, "other=x")
	m := open(t, d)
	apply(t, m, add(1), add(2))
	return d, m, []api.Edit{first(), add(1), add(2)}
}

func TestP1802ApplyWhenTheDiskFails(t *testing.T) {
	n := calls(t, func() (*disk.Disk, func()) {
		d, m, _ := failing(t)
		return d, func() { m.Apply(add(3)) }
	})
	if n < 2 {
		t.Errorf("Apply has %d calls", n)
	}
	for k := range n {
		for _, keep := range []int{0, 9, 10000} {
			d, m, l := failing(t)
			v := fold(t, l...)
			fail(d, k)
			wantErrno(t, "Apply", m.Apply(add(3)), api.ErrIO)
			wantVersion(t, "Apply", m, v)
			// The next one goes to a new file, which has nothing of the first.
			d.Crash(keep)
			apply(t, m, add(4))
			w := applied(t, v, add(4))
			wantVersion(t, "Apply", m, w)
			log := logOf(api.Edit{Add: v.Runs, Next: 3, Seq: 20}, add(4))
			wantFiles(t, "Apply", d, "other=x", "CURRENT=MANIFEST-2\n", "MANIFEST-2="+log)
			wantOpen(t, "Apply", d, w)
			// With that the Switch is done.
			apply(t, m, add(5))
			log = logOf(api.Edit{Add: v.Runs, Next: 3, Seq: 20}, add(4), add(5))
			wantFiles(t, "Apply", d, "other=x", "CURRENT=MANIFEST-2\n", "MANIFEST-2="+log)
		}
	}
}

func TestP1802AfterAnApplyThatFailed(t *testing.T) {
	// An edit that is refused does no Switch.
	d, m, l := failing(t)
	fail(d, 2)
	wantErrno(t, "Apply", m.Apply(add(3)), api.ErrIO)
	files := content(d)
	wantErrno(t, "Apply", m.Apply(api.Edit{Next: 1}), api.ErrOrder)
	wantErrno(t, "Apply", m.Apply(api.Edit{Next: -1}), api.ErrArg)
	wantContent(t, "Apply refused", d, files)
	// A Switch that is asked for is the one that is outstanding.
	wantErrno(t, "Switch", m.Switch(), api.OK)
	apply(t, m, add(3))
	v := fold(t, l...)
	wantFiles(t, "Switch", d, "other=x", "CURRENT=MANIFEST-2\n", "MANIFEST-2="+logOf(api.Edit{Add: v.Runs, Next: 3, Seq: 20}, add(3)))
	wantOpen(t, "Switch", d, applied(t, v, add(3)))
}

func TestP1802TheOutstandingSwitchMayFail(t *testing.T) {
	for k := range 6 {
		d, m, l := failing(t)
		v := fold(t, l...)
		fail(d, 1)
		wantErrno(t, "Apply", m.Apply(add(3)), api.ErrIO)
		files := content(d)
		for range 3 {
			fail(d, k)
			e := m.Apply(add(3))
			if failed := d.Failed(); failed == 1 && e != api.OK || k < 5 && e != api.ErrIO {
				t.Errorf("call %d fails: Apply = %d, %d failed", k, e, failed)
			}
			if e == api.OK {
				break
			}
			wantVersion(t, "Apply", m, v)
			if got := content(d); got["CURRENT"] != files["CURRENT"] || got["MANIFEST-1"] != files["MANIFEST-1"] {
				t.Errorf("call %d fails: files %q", k, got)
			}
			wantOpen(t, "Apply", copied(t, d, 10000), v)
		}
		d.Fail(nil)
		apply(t, m, add(4))
		want := applied(t, v, add(4))
		if k >= 5 {
			want = applied(t, applied(t, v, add(3)), add(4))
		}
		wantOpen(t, "Apply", d, want)
		if slices.Contains(d.List(), "MANIFEST-1") != (k == 5) {
			t.Errorf("call %d fails: files %q", k, d.List())
		}
	}
}

func TestP1802ApplyOnAFullDisk(t *testing.T) {
	d, m, l := failing(t)
	v := fold(t, l...)
	need := len(frame.Put(len(logOf(l...)), edit.Bytes(add(3))))
	used := d.Used()
	for left := range need {
		full := copied(t, d, used+left)
		m = open(t, full)
		files := content(full)
		for range 3 {
			wantErrno(t, "Apply", m.Apply(add(3)), api.ErrFull)
			wantVersion(t, "Apply", m, v)
			wantContent(t, "Apply", full, files)
		}
		wantOpen(t, "Apply", full, v)
	}
	full := copied(t, d, used+need)
	m = open(t, full)
	apply(t, m, add(3))
	wantOpen(t, "Apply", full, applied(t, v, add(3)))
	wantErrno(t, "Apply", m.Apply(api.Edit{}), api.ErrFull)
	wantErrno(t, "Switch", m.Switch(), api.ErrFull)
	wantOpen(t, "Apply", full, applied(t, v, add(3)))
}

// TestP1802ApplyWithRoomAgain goes on in a new file.
func TestP1802ApplyWithRoomAgain(t *testing.T) {
	d := disk.New(2000)
	m := open(t, d)
	put(t, d, "other="+strings.Repeat("x", 2000-d.Used()-20))
	wantErrno(t, "Apply", m.Apply(add(1)), api.ErrFull)
	wantErrno(t, "Apply", m.Apply(add(1)), api.ErrFull)
	d.Remove("other")
	apply(t, m, add(1))
	wantFiles(t, "Apply", d, "CURRENT=MANIFEST-2\n", "MANIFEST-2="+logOf(first(), add(1)))
}

// almostFull is a log, and an edit whose record fills the file up to its limit.
func almostFull(t *testing.T) (string, api.Edit) {
	t.Helper()
	v := greatKeys(many(100))
	l := []api.Edit{{Add: v.Runs, Next: 5000, Seq: 9000}, {Drop: files(v.Runs)}}
	var log []byte
	for i := 0; len(log) < api.MaxFile-120000 || i%2 == 1; i++ {
		log = append(log, frame.Put(len(log), edit.Bytes(l[i%2]))...)
	}
	for len(log) < api.MaxFile-500 {
		log = append(log, frame.Put(len(log), edit.Bytes(api.Edit{Next: 5000}))...)
	}
	for n := 1; n <= api.MaxKey; n++ {
		r := api.Run{File: 4000, Bytes: 1, Count: 1, First: bytes.Repeat([]byte{'a'}, n), Last: bytes.Repeat([]byte{'b'}, api.MaxKey), Seq: 9000}
		e := api.Edit{Add: []api.Run{r}}
		if len(log)+len(frame.Put(len(log), edit.Bytes(e))) == api.MaxFile {
			return string(log), e
		}
	}
	t.Fatal("no edit fills the file")
	return "", api.Edit{}
}

func TestP1802ApplyLimitsTheFile(t *testing.T) {
	log, last := almostFull(t)
	d := withLog(t, log)
	m := open(t, d)
	v := applied(t, m.Version(), last)
	apply(t, m, last)
	before := content(d)
	if n := len(before["MANIFEST-5"]); n != api.MaxFile {
		t.Errorf("the file has %d bytes", n)
	}
	wantOpen(t, "Apply", d, v)
	wantErrno(t, "Apply", m.Apply(api.Edit{}), api.ErrLong)
	wantVersion(t, "Apply", m, v)
	wantContent(t, "Apply", d, before)
	// The next one goes to a new file.
	want := chapterSwitch(before, v)
	want["MANIFEST-6"] += string(frame.Put(len(want["MANIFEST-6"]), edit.Bytes(api.Edit{Next: 5001})))
	apply(t, m, api.Edit{Next: 5001})
	wantContent(t, "Apply", d, want)
}

func files(l []api.Run) []int {
	var out []int
	for _, r := range l {
		out = append(out, r.File)
	}
	return out
}

func sizeOf(t *testing.T, d *disk.Disk, name string) int {
	t.Helper()
	n, e := d.Size(name)
	wantErrno(t, "Size", e, api.OK)
	return n
}

func TestP1802SwitchDescribesTheVersion(t *testing.T) {
	for _, n := range []int{0, 1, 2, 99, 100, 101, 150, 199, 200, 201, 300, 900, 901, 999, 1000} {
		for _, v := range []api.Version{many(n), greatKeys(many(n))} {
			d := withLog(t, logOf(editsOf(v)...))
			m := open(t, d)
			for k := 6; k < 9; k++ {
				before := content(d)
				wantErrno(t, "Switch", m.Switch(), api.OK)
				wantVersion(t, "Switch", m, v)
				wantContent(t, "Switch of "+strconv.Itoa(n)+" runs", d, chapterSwitch(before, v))
				b, _ := d.Read("MANIFEST-"+strconv.Itoa(k), 0, api.MaxFile)
				records, size, class := frame.All(b)
				if len(records) != max(1, (n+99)/100) || size != len(b) || class != api.EndClean {
					t.Errorf("Switch of %d runs: %d records", n, len(records))
				}
			}
			wantOpen(t, "Switch", d, v)
		}
	}
}

func TestP1802SwitchOfNumbers(t *testing.T) {
	for _, v := range []api.Version{{Next: 1}, {Next: 1, Log: 1}, {Next: 1, Seq: 1}, {Next: top}, {Next: 7, Log: top, Seq: api.MaxSeq}, {Next: top, Log: top, Seq: api.MaxSeq}} {
		d, m := opened(t, v)
		wantVersion(t, "Switch", m, v)
		wantFiles(t, "Switch", d, "CURRENT=MANIFEST-6\n", "MANIFEST-6="+logOf(api.Edit{Next: v.Next, Log: v.Log, Seq: v.Seq}))
		wantOpen(t, "Switch", d, v)
	}
}

func TestP1802SwitchNumbersItsFile(t *testing.T) {
	for _, x := range []struct {
		more []string
		want int
	}{
		{nil, 6}, {[]string{"MANIFEST-1"}, 6}, {[]string{"MANIFEST-4"}, 6}, {[]string{"MANIFEST-6"}, 7}, {[]string{"MANIFEST-9"}, 10}, {[]string{"MANIFEST-9", "MANIFEST-10"}, 11}, {[]string{"MANIFEST-41", "MANIFEST-100"}, 101}, {[]string{"MANIFEST-99", "MANIFEST-1000", "MANIFEST-200"}, 1001},
		{[]string{"MANIFEST-4294967296"}, 1<<32 + 1}, {[]string{"MANIFEST-1099511627775"}, top},
		{[]string{"MANIFEST-07", "MANIFEST-1099511627777", "MANIFEST-99999999999999999999", "MANIFEST-8.", "CURRENT-9"}, 6},
	} {
		d := withLog(t, logOf(add(1)))
		m := open(t, d)
		for _, name := range x.more {
			put(t, d, name+"=junk")
		}
		want := chapterSwitch(content(d), fold(t, add(1)))
		wantErrno(t, "Switch", m.Switch(), api.OK)
		wantContent(t, "Switch", d, want)
		if got := content(d)["CURRENT"]; got != "MANIFEST-"+strconv.Itoa(x.want)+"\n" {
			t.Errorf("Switch beside %v: CURRENT is %q, want %d", x.more, got, x.want)
		}
		apply(t, m, add(2))
		wantOpen(t, "Switch", d, fold(t, add(1), add(2)))
	}
}

// TestP1802NumbersEnd: there is no name for a file with the next number.
func TestP1802NumbersEnd(t *testing.T) {
	d := with(t, "CURRENT=MANIFEST-1099511627776\n", "MANIFEST-1099511627776="+logOf(add(1)))
	m := open(t, d)
	before := content(d)
	wantErrno(t, "Switch", m.Switch(), api.ErrLong)
	wantContent(t, "Switch", d, before)
	apply(t, m, add(2))
	wantFiles(t, "Apply", d, "CURRENT=MANIFEST-1099511627776\n", "MANIFEST-1099511627776="+logOf(add(1), add(2)))
	fail(d, 2)
	wantErrno(t, "Apply", m.Apply(add(3)), api.ErrIO)
	wantErrno(t, "Apply", m.Apply(add(3)), api.ErrLong)
	wantVersion(t, "Apply", m, fold(t, add(1), add(2)))
	d.Crash(0)
	wantOpen(t, "Apply", d, fold(t, add(1), add(2)))

	d = withLog(t, logOf(add(1)))
	m = open(t, d)
	put(t, d, "MANIFEST-1099511627776=junk")
	wantErrno(t, "Switch", m.Switch(), api.ErrLong)
	wantOpen(t, "Switch", d, fold(t, add(1)))
	d.Remove("MANIFEST-1099511627776")
	wantErrno(t, "Switch", m.Switch(), api.OK)
	wantNotOpen(t, "Open", with(t, "MANIFEST-1099511627776=junk"), api.ErrLong)
}

func TestP1802SwitchReplacesCurrentNew(t *testing.T) {
	for _, junk := range []string{"", "junk", "MANIFEST-5\n", "MANIFEST-6\n", strings.Repeat("x", 1000)} {
		d := withLog(t, logOf(add(1)))
		m := open(t, d)
		put(t, d, "CURRENT.new="+junk)
		want := chapterSwitch(content(d), fold(t, add(1)))
		wantErrno(t, "Switch", m.Switch(), api.OK)
		wantContent(t, "Switch", d, want)
		wantOpen(t, "Switch", d, fold(t, add(1)))
	}
}

func TestP1802SwitchIsDurable(t *testing.T) {
	for _, n := range []int{0, 3, 250} {
		d, m := opened(t, many(n))
		d.Crash(0)
		wantOpen(t, "Switch", d, many(n))
		wantErrno(t, "Switch", m.Switch(), api.OK)
		before := content(d)
		d.Crash(0)
		wantContent(t, "Switch", d, before)
	}
}

func TestP1802SwitchAppendsAllAtOnce(t *testing.T) {
	count := func(n int, more ...string) int {
		return calls(t, func() (*disk.Disk, func()) {
			d, m := opened(t, many(n))
			put(t, d, more...)
			return d, func() { m.Switch() }
		})
	}
	plain := count(0)
	if got := count(1000); got != plain {
		t.Errorf("Switch of 1000 runs has %d calls, of none %d", got, plain)
	}
	if got := count(0, "CURRENT.new=x"); got != plain+1 {
		t.Errorf("Switch beside CURRENT.new has %d calls, else %d", got, plain)
	}
	if got := count(0, "MANIFEST-1=x", "MANIFEST-2=x", "other=x"); got != plain+2 {
		t.Errorf("Switch beside two files more has %d calls, else %d", got, plain)
	}
}

// TestP1802SwitchWhenTheDiskFails has each call fail, alone and with all that follow.
func TestP1802SwitchWhenTheDiskFails(t *testing.T) {
	start := func() (*disk.Disk, *Manifest) {
		d := withLog(t, logOf(add(1), add(2)))
		m := open(t, d)
		put(t, d, "CURRENT.new=junk", "MANIFEST-2=junk", "MANIFEST-9=junk", "MANIFEST-04=junk", "other=x")
		return d, m
	}
	v := fold(t, add(1), add(2))
	n := calls(t, func() (*disk.Disk, func()) {
		d, m := start()
		return d, func() { m.Switch() }
	})
	if n != 9 {
		t.Errorf("Switch has %d calls", n)
	}
	for k := range n {
		for _, how := range []func(d *disk.Disk, k int){fail, die} {
			d, m := start()
			before := content(d)
			after := chapterSwitch(before, v)
			how(d, k)
			e := m.Switch()
			d.Fail(nil)
			got := content(d)
			// The sixth call makes the new file the current one; the others remove files.
			if k < 6 {
				wantErrno(t, "Switch", e, api.ErrIO)
				if got["CURRENT"] != "MANIFEST-5\n" || got["MANIFEST-5"] != before["MANIFEST-5"] {
					t.Errorf("call %d fails: files %q", k, got)
				}
			} else {
				wantErrno(t, "Switch", e, api.OK)
				if got["CURRENT"] != "MANIFEST-10\n" || got["MANIFEST-10"] != after["MANIFEST-10"] {
					t.Errorf("call %d fails: files %q", k, got)
				}
			}
			if got["other"] != "x" || got["MANIFEST-04"] != "junk" {
				t.Errorf("call %d fails: files %q", k, got)
			}
			wantVersion(t, "Switch", m, v)
			d.Crash(0)
			wantOpen(t, "Switch", d, v)
			// The manifest goes on where CURRENT has it.
			apply(t, m, add(3))
			d.Crash(0)
			wantOpen(t, "Switch, Apply", d, applied(t, v, add(3)))
			after = chapterSwitch(content(d), applied(t, v, add(3)))
			wantErrno(t, "Switch", m.Switch(), api.OK)
			wantContent(t, "Switch again", d, after)
		}
	}
}

// TestP1802OneFileThatCanNotBeRemoved: the others are removed nevertheless.
func TestP1802OneFileThatCanNotBeRemoved(t *testing.T) {
	for k := range 3 {
		d := withLog(t, logOf(add(1)))
		m := open(t, d)
		put(t, d, "MANIFEST-1=junk", "MANIFEST-9=junk")
		fail(d, 5+k)
		wantErrno(t, "Switch", m.Switch(), api.OK)
		if d.Failed() != 1 || len(d.List()) != 3 {
			t.Errorf("file %d stays: %d failed, files %q", k, d.Failed(), d.List())
		}
		d.Fail(nil)
		wantOpen(t, "Switch", d, fold(t, add(1)))
		apply(t, m, add(2))
		wantErrno(t, "Switch", m.Switch(), api.OK)
		wantFiles(t, "Switch", d, "CURRENT=MANIFEST-11\n", "MANIFEST-11="+logOf(api.Edit{Add: fold(t, add(1), add(2)).Runs, Next: 3, Seq: 20}))
	}
}

// TestP1802ASwitchThatFailsLeavesNothing: else each one would take room from the next.
func TestP1802ASwitchThatFailsLeavesNothing(t *testing.T) {
	for k := range 5 {
		d, m := opened(t, many(150))
		before := content(d)
		for range 5 {
			fail(d, k)
			wantErrno(t, "Switch", m.Switch(), api.ErrIO)
			wantContent(t, "Switch", d, before)
		}
	}
	d, m := opened(t, many(150))
	used, need := d.Used(), sizeOf(t, d, "MANIFEST-6")+len("MANIFEST-7\n")
	for _, left := range []int{0, 1, need - 12, need - 11, need - 10, need - 1} {
		full := copied(t, d, used+left)
		m = open(t, full)
		before := content(full)
		for range 3 {
			wantErrno(t, "Switch", m.Switch(), api.ErrFull)
			wantContent(t, "Switch", full, before)
		}
		wantOpen(t, "Switch", full, many(150))
	}
	full := copied(t, d, used+need)
	wantErrno(t, "Switch", open(t, full).Switch(), api.OK)
	wantOpen(t, "Switch", full, many(150))
}

// TestP1802ASwitchThatFailedIsNotOutstanding: the file that is current is still good.
func TestP1802ASwitchThatFailedIsNotOutstanding(t *testing.T) {
	for k := range 5 {
		d, m, l := failing(t)
		fail(d, k)
		wantErrno(t, "Switch", m.Switch(), api.ErrIO)
		apply(t, m, add(3))
		l = append(l, add(3))
		wantFiles(t, "Apply", d, "other=x", "CURRENT=MANIFEST-1\n", "MANIFEST-1="+logOf(l...))
		wantOpen(t, "Apply", d, fold(t, l...))
	}
}

func TestP1802SwitchWithTooManyFiles(t *testing.T) {
	d, m := opened(t, many(3))
	for i := range 998 {
		put(t, d, "n"+strconv.Itoa(i)+"=")
	}
	before := content(d)
	for range 2 {
		wantErrno(t, "Switch", m.Switch(), api.ErrLong)
		wantContent(t, "1000 files", d, before)
	}
	d.Remove("n0")
	delete(before, "n0")
	for range 2 {
		wantErrno(t, "Switch", m.Switch(), api.ErrLong)
		wantContent(t, "999 files", d, before)
	}
	d.Remove("n1")
	wantErrno(t, "Switch", m.Switch(), api.OK)
	wantOpen(t, "998 files", d, many(3))
}

// TestP1802TheFileOfAManifestIsGone: no new file of this name may stand for it.
func TestP1802TheFileOfAManifestIsGone(t *testing.T) {
	d, m, l := failing(t)
	d.Remove("MANIFEST-1")
	wantErrno(t, "Apply", m.Apply(add(3)), api.ErrNone)
	wantFiles(t, "Apply", d, "other=x", "CURRENT=MANIFEST-1\n")
	apply(t, m, add(3))
	wantOpen(t, "Apply", d, applied(t, fold(t, l...), add(3)))
}

// crashes is a script of calls on one disk; sure is the version that has to survive, and
// tried are those that may be there instead.
type crashes struct {
	r     *rand.Rand
	d     *disk.Disk
	m     *Manifest
	sure  api.Version
	tried []api.Version
	seen  map[string]int
}

// edit is one for the version that is sure, or for none.
func (c *crashes) edit() api.Edit {
	v, r := c.sure, c.r
	n := v.Next
	switch r.Intn(8) {
	case 0:
		return api.Edit{Log: n - r.Intn(3), Seq: v.Seq + uint64(r.Intn(3))}
	case 1:
		return api.Edit{}
	case 2, 3:
		if len(v.Runs) < 2 {
			break
		}
		at := r.Intn(len(v.Runs) - 1)
		to := at + 1 + r.Intn(len(v.Runs)-at)
		return api.Edit{Add: []api.Run{run(n, v.Runs[at].Seq)}, Drop: files(v.Runs[at:to]), Next: n + 1}
	}
	return api.Edit{Add: []api.Run{run(n, v.Seq+1)}, Next: n + 1, Seq: v.Seq + uint64(r.Intn(3))}
}

func (c *crashes) arm() {
	c.d.Fail(nil)
	if c.r.Intn(2) == 0 {
		return
	}
	l := make([]int, c.r.Intn(12))
	for i := range l {
		l[i] = max(0, c.r.Intn(5)-3)
	}
	c.d.Fail(append(l, slices.Repeat([]int{c.r.Intn(2)}, c.r.Intn(15))...))
}

// failed tells whether the disk failed in a call that answered e.
func (c *crashes) failed(t *testing.T, what string, before int, e api.Errno) bool {
	t.Helper()
	if (e == api.ErrIO) && c.d.Failed() == before || e != api.OK && e != api.ErrIO && e != api.ErrFull {
		t.Errorf("%s = %d, failed %d", what, e, c.d.Failed()-before)
	}
	c.seen[what+" "+strconv.Itoa(int(e))]++
	return e != api.OK
}

func (c *crashes) apply(t *testing.T) {
	t.Helper()
	e := c.edit()
	w, want := version.Apply(c.sure, e)
	before := c.d.Failed()
	got := c.m.Apply(e)
	switch {
	case want != api.OK:
		wantErrno(t, "Apply", got, want)
		if c.d.Failed() != before {
			t.Error("Apply of an edit that is refused calls the disk")
		}
	case c.failed(t, "Apply", before, got):
		c.tried = append(c.tried, w)
	default:
		c.sure, c.tried = w, nil
	}
	wantVersion(t, "Apply", c.m, c.sure)
}

func (c *crashes) change(t *testing.T) {
	t.Helper()
	before := c.d.Failed()
	if !c.failed(t, "Switch", before, c.m.Switch()) {
		c.tried = nil
	}
	wantVersion(t, "Switch", c.m, c.sure)
}

func (c *crashes) reopen(t *testing.T) {
	t.Helper()
	before := c.d.Failed()
	m, e := Open(c.d)
	if c.failed(t, "Open", before, e) {
		c.d.Fail(nil)
		m = open(t, c.d)
	}
	v := m.Version()
	if !same(v, c.sure) && !slices.ContainsFunc(c.tried, func(w api.Version) bool { return same(v, w) }) {
		t.Fatalf("Open has %v, want %v", v, c.sure)
	}
	if !same(v, c.sure) {
		c.seen["Open with more than was sure"]++
	}
	c.m, c.sure, c.tried = m, v, nil
}

func TestP1803ScriptsOfCalls(t *testing.T) {
	seen := map[string]int{}
	for seed := range 600 {
		r := rand.New(rand.NewSource(int64(seed)))
		c := &crashes{r: r, d: disk.New(200 + r.Intn(200+seed%3*1000)), sure: api.Version{Next: 1}, seen: seen}
		c.m = open(t, c.d)
		for range 60 {
			c.arm()
			switch r.Intn(12) {
			case 0:
				c.change(t)
			case 1:
				c.d.Crash(r.Intn(60))
				c.reopen(t)
			case 2:
				c.reopen(t)
			case 3:
				// This manifest goes on behind the crash.
				c.d.Crash(r.Intn(60))
			default:
				c.apply(t)
			}
			if t.Failed() {
				t.Fatalf("seed %d", seed)
			}
		}
		c.d.Fail(nil)
		c.d.Crash(0)
		c.reopen(t)
	}
	for _, what := range []string{"Apply 0", "Apply 7", "Apply 11", "Switch 0", "Switch 7", "Switch 11", "Open 0", "Open 11", "Open with more than was sure"} {
		if seen[what] < 100 {
			t.Errorf("%s: %d times only of %v", what, seen[what], seen)
		}
	}
}

// TestP1803ACrashBetweenAnyCalls has all calls fail from one on, as a crash there has it.
func TestP1803ACrashBetweenAnyCalls(t *testing.T) {
	l := []api.Edit{add(1), add(2), {Add: []api.Run{run(5, 20)}, Drop: []int{2, 1}, Next: 6, Log: 4}, add(7), {Drop: []int{5}}, add(9)}
	script := func(d *disk.Disk) (int, bool) {
		m, e := Open(d)
		if e != api.OK {
			return 0, false
		}
		for i, x := range l {
			if m.Apply(x) != api.OK {
				return i, true
			}
			if i%2 == 1 {
				m.Switch()
			}
		}
		return len(l), true
	}
	n := calls(t, func() (*disk.Disk, func()) {
		d := disk.New(10000)
		return d, func() { script(d) }
	})
	for k := range n + 1 {
		for _, keep := range []int{0, 1, 5, 12, 30, 10000} {
			d := disk.New(10000)
			die(d, k)
			done, laid := script(d)
			d.Fail(nil)
			d.Crash(keep)
			v := open(t, d).Version()
			sure := same(v, fold(t, l[:done]...))
			more := laid && done < len(l) && same(v, fold(t, l[:done+1]...))
			if !sure && !more || more && keep < 30 {
				t.Errorf("%d calls, %d edits, %d bytes kept: %v", k, done, keep, v)
			}
			wantOpen(t, "again", d, v)
		}
	}
}

func TestP1803ArgumentsStay(t *testing.T) {
	l := many(120).Runs
	for i := range l {
		l[i].First = append(l[i].First, "spare"...)[:len(l[i].First)]
	}
	drop := []int{3, 2, 77, 78}
	e := api.Edit{Add: l[:100], Drop: drop[:2], Next: 2000, Seq: 9999}
	want := api.Edit{Add: many(100).Runs, Drop: []int{3, 2}, Next: 2000, Seq: 9999}
	d := disk.New(1 << 20)
	m := open(t, d)
	apply(t, m, api.Edit{Add: []api.Run{run(2, 5), run(3, 4)}, Next: 4, Seq: 5, Log: 1})
	for range 2 {
		wantErrno(t, "Apply", m.Apply(api.Edit{Add: l[:101]}), api.ErrArg)
		fail(d, 0)
		wantErrno(t, "Apply", m.Apply(e), api.ErrIO)
	}
	apply(t, m, e)
	spare := true
	for i, r := range l {
		spare = spare && string(r.First[:len(r.First)+5]) == string(many(120).Runs[i].First)+"spare"
	}
	if !slices.EqualFunc(l, many(120).Runs, sameRun) || !slices.Equal(drop, []int{3, 2, 77, 78}) || !spare || e.Next != want.Next {
		t.Error("Apply changes the edit")
	}
	// Nor is the edit kept.
	v := m.Version()
	for i := range l {
		clear(l[i].First)
		clear(l[i].Last)
		l[i] = api.Run{}
	}
	clear(drop)
	wantVersion(t, "the edit changed", m, v)
	wantErrno(t, "Switch", m.Switch(), api.OK)
	wantOpen(t, "the edit changed", d, v)
}

func TestP1803VersionsAreNew(t *testing.T) {
	d, m := opened(t, many(5))
	for range 3 {
		v := m.Version()
		if !same(v, many(5)) {
			t.Fatalf("Version = %v", v)
		}
		for i := range v.Runs {
			r := &v.Runs[i]
			first, last := r.First[:cap(r.First)], r.Last[:cap(r.Last)]
			for k := range first {
				first[k] ^= 255
			}
			for k := range last {
				last[k] ^= 255
			}
			if n := len(v.Runs); i+1 < n && !sameRun(v.Runs[n-1], many(5).Runs[n-1]) {
				t.Fatal("runs share their keys")
			}
		}
		clear(v.Runs[:cap(v.Runs)])
	}
	wantErrno(t, "Switch", m.Switch(), api.OK)
	wantOpen(t, "Switch", d, many(5))
}

func TestP1803DisksAreSeparate(t *testing.T) {
	a, b := disk.New(10000), disk.New(10000)
	m, n := open(t, a), open(t, b)
	apply(t, m, add(1))
	apply(t, n, add(2), add(3))
	fail(a, 0)
	wantErrno(t, "Apply", m.Apply(add(4)), api.ErrIO)
	apply(t, n, add(4))
	apply(t, m, add(5))
	wantVersion(t, "one", m, fold(t, add(1), add(5)))
	wantVersion(t, "another", n, fold(t, add(2), add(3), add(4)))
	wantFiles(t, "another", b, "CURRENT=MANIFEST-1\n", "MANIFEST-1="+logOf(first(), add(2), add(3), add(4)))
	wantOpen(t, "one", a, fold(t, add(1), add(5)))
	wantOpen(t, "another", b, fold(t, add(2), add(3), add(4)))
}

func TestP1803ResultsRepeat(t *testing.T) {
	var want map[string]string
	for i := range 5 {
		d := with(t, "MANIFEST-3=junk", "MANIFEST-20=junk", "CURRENT.new=junk")
		m := open(t, d)
		for k := range 40 {
			fail(d, k%11)
			m.Apply(add(k + 1))
			fail(d, k%7)
			m.Switch()
		}
		d.Fail(nil)
		if i == 0 {
			want = content(d)
		}
		wantContent(t, "again", d, want)
	}
}

func TestNoDisk(t *testing.T) {
	if m, e := Open(nil); m != nil || e != api.ErrArg {
		t.Errorf("Open = %v, %d", m, e)
	}
	m := new(Manifest)
	wantVersion(t, "zero", m, api.Version{})
	wantErrno(t, "Apply", m.Apply(api.Edit{}), api.ErrArg)
	wantErrno(t, "Apply", m.Apply(add(1)), api.ErrArg)
	wantErrno(t, "Switch", m.Switch(), api.ErrArg)
	wantVersion(t, "zero", m, api.Version{})
}
