package version

import (
	"bytes"
	"math"
	"slices"
	"strings"
	"testing"

	"buttery/api"
	"buttery/edit"
)

const top = 1 << 40

func run(file int, seq uint64) api.Run {
	return api.Run{File: file, Bytes: 100, Count: 3, First: []byte("a"), Last: []byte("b"), Seq: seq}
}

// runs is n runs of the files from on, each older than the one before it: the first one
// has the Seq n*step.
func runs(from, n int, step uint64) []api.Run {
	var l []api.Run
	for i := range n {
		l = append(l, run(from+i, uint64(n-i)*step))
	}
	return l
}

// many is a version of n runs with the files 1 to n.
func many(n int) api.Version {
	return api.Version{Runs: runs(1, n, 1000), Next: 10000, Log: 9000, Seq: 10_000_000}
}

// base is a version of five runs whose files are in no order.
func base() api.Version {
	return api.Version{
		Runs: []api.Run{run(7, 50), run(2, 40), run(9, 30), run(4, 20), run(5, 10)},
		Next: 12,
		Log:  11,
		Seq:  55,
	}
}

func sameRun(a, b api.Run) bool {
	return a.File == b.File && a.Bytes == b.Bytes && a.Count == b.Count &&
		bytes.Equal(a.First, b.First) && bytes.Equal(a.Last, b.Last) && a.Seq == b.Seq
}

func same(a, b api.Version) bool {
	return slices.EqualFunc(a.Runs, b.Runs, sameRun) && a.Next == b.Next && a.Log == b.Log && a.Seq == b.Seq
}

// validVersions have all limits that a version can reach.
func validVersions() []api.Version {
	l := []api.Version{
		{Next: 1},
		{Runs: []api.Run{}, Next: 1},
		{Next: 2}, {Next: top}, {Next: 1, Log: 1}, {Next: 1, Log: top}, {Next: 1, Seq: 1}, {Next: 1, Seq: api.MaxSeq}, {Next: 1 << 32, Log: 1<<32 + 1, Seq: 1 << 32},
		{Next: top, Log: top, Seq: api.MaxSeq},
		{Runs: runs(1, 1, 1), Next: 2, Seq: 1},
		{Runs: []api.Run{run(top-1, api.MaxSeq)}, Next: top, Seq: api.MaxSeq},
		{Runs: []api.Run{run(top-1, api.MaxSeq), run(1, api.MaxSeq-1), run(2, 2), run(3, 1)}, Next: top, Log: top, Seq: api.MaxSeq},
		// Log is a number of its own: it may be that of a run, and not less than Next.
		{Runs: runs(1, 3, 5), Next: 4, Log: 2, Seq: 15},
		{Runs: runs(1, 3, 5), Next: 4, Log: 4, Seq: 15},
		// The files need not stand in any order.
		{Runs: []api.Run{run(1, 9), run(3, 8), run(2, 7)}, Next: 4, Seq: 9},
		{Runs: []api.Run{run(1, 9), run(1<<32+1, 8)}, Next: top, Seq: 9},
		base(), many(1), many(2), many(101), many(999), many(1000),
	}
	limits := base()
	limits.Runs[0] = api.Run{File: 7, Bytes: 1, Count: 1, First: []byte{0}, Last: []byte{0}, Seq: 50}
	limits.Runs[4] = api.Run{File: 5, Bytes: api.MaxFile, Count: api.MaxFile, First: bytes.Repeat([]byte{255}, 256), Last: bytes.Repeat([]byte{255}, 256), Seq: 1}
	return append(l, limits)
}

// outside is numbers that are in no range from least to most.
func outside(least, most int) []int {
	return []int{math.MinInt, math.MinInt + 1, -1 << 40, -1 << 32, -2, -1, least - 1, most + 1, most + 2, 1 << 41, 1<<62 + 1, math.MaxInt - 1, math.MaxInt}
}

func greatSeqs() []uint64 {
	return []uint64{api.MaxSeq + 1, api.MaxSeq + 2, 1 << 57, 1<<63 - 1, 1 << 63, 1<<63 + 1, math.MaxUint64 - 1, math.MaxUint64}
}

// invalidRuns are invalid wherever they stand.
func invalidRuns() []api.Run {
	l := []api.Run{{}}
	with := func(change func(r *api.Run)) {
		r := run(50, 5)
		change(&r)
		l = append(l, r)
	}
	for _, x := range outside(1, top) {
		with(func(r *api.Run) { r.File = x })
	}
	for _, x := range outside(1, api.MaxFile) {
		with(func(r *api.Run) { r.Bytes = x })
		with(func(r *api.Run) { r.Count = x })
	}
	for _, k := range [][2]string{{"", ""}, {"", "a"}, {"a", ""}, {"b", "a"}, {"a\x00", "a"}, {"\x80", "\x7f"}, {strings.Repeat("x", 257), "y"}, {"a", strings.Repeat("x", 257)}} {
		with(func(r *api.Run) { r.First, r.Last = []byte(k[0]), []byte(k[1]) })
	}
	return l
}

// invalidVersions have one flaw each, or some of a kind.
func invalidVersions() []api.Version {
	l := []api.Version{{}, {Log: 1}, {Seq: 1}, {Runs: runs(1, 1, 1), Next: 2}}
	with := func(v api.Version, change func(v *api.Version)) {
		change(&v)
		l = append(l, v)
	}
	for _, x := range outside(1, top) {
		with(base(), func(v *api.Version) { v.Next = x })
		with(api.Version{}, func(v *api.Version) { v.Next = x })
	}
	for _, x := range outside(0, top) {
		with(base(), func(v *api.Version) { v.Log = x })
		with(api.Version{Next: 1}, func(v *api.Version) { v.Log = x })
	}
	for _, x := range greatSeqs() {
		with(base(), func(v *api.Version) { v.Seq = x })
		with(api.Version{Next: 1}, func(v *api.Version) { v.Seq = x })
	}
	for _, x := range []uint64{0, 1, 10, 48, 49} {
		with(base(), func(v *api.Version) { v.Seq = x })
	}
	for _, x := range []int{1, 2, 8, 9} {
		with(base(), func(v *api.Version) { v.Next = x })
	}
	for _, n := range []int{1001, 1002, 1100, 2000, 5000} {
		with(many(n), func(v *api.Version) {})
	}
	for _, n := range []int{1, 2, 3, 100, 1000} {
		for _, at := range []int{0, n / 2, n - 1} {
			l = append(l, invalidAt(n, at)...)
		}
	}
	return l
}

// invalidAt is versions of n runs, of which the one at the place at makes them invalid.
func invalidAt(n, at int) []api.Version {
	var l []api.Version
	with := func(change func(v *api.Version, r *api.Run)) {
		v := many(n)
		change(&v, &v.Runs[at])
		l = append(l, v)
	}
	for _, r := range invalidRuns() {
		with(func(v *api.Version, it *api.Run) {
			it.File, it.Bytes, it.Count, it.First, it.Last = r.File, r.Bytes, r.Count, r.First, r.Last
		})
	}
	for _, x := range append(greatSeqs(), 0) {
		with(func(v *api.Version, r *api.Run) { r.Seq = x })
	}
	for _, x := range []int{10000, 10001, 1 << 33, top} {
		with(func(v *api.Version, r *api.Run) { r.File = x })
	}
	for _, other := range []int{0, at - 1, n - 1} {
		if other < 0 || other == at {
			continue
		}
		with(func(v *api.Version, r *api.Run) { r.File = v.Runs[other].File })
		with(func(v *api.Version, r *api.Run) { r.Seq = v.Runs[other].Seq })
	}
	with(func(v *api.Version, r *api.Run) {
		v.Seq = v.Runs[0].Seq
		r.Seq = v.Seq + 1
	})
	if at > 0 {
		with(func(v *api.Version, r *api.Run) { r.Seq = v.Runs[at-1].Seq + 1 })
		with(func(v *api.Version, r *api.Run) { v.Runs[at-1], *r = *r, v.Runs[at-1] })
	}
	return l
}

func invalidEdits() []api.Edit {
	l := []api.Edit{
		{Add: runs(10, 101, 1)},
		{Drop: make([]int, 101)},
		{Drop: []int{2, 2}},
		{Drop: []int{0}},
		{Drop: []int{top + 1}},
		{Add: []api.Run{run(10, 60), run(10, 59)}, Seq: 60},
		{Add: []api.Run{run(10, 0)}, Seq: 60},
	}
	for _, x := range outside(0, top) {
		l = append(l, api.Edit{Next: x}, api.Edit{Log: x})
	}
	for _, x := range greatSeqs() {
		l = append(l, api.Edit{Seq: x})
	}
	for _, r := range invalidRuns() {
		r.Seq = 60
		l = append(l, api.Edit{Add: []api.Run{r}, Seq: 60, Next: top})
	}
	return l
}

// chapterRight takes the chapter's words one by one.
func chapterRight(v api.Version) bool {
	right := len(v.Runs) <= 1000 && v.Next >= 1 && v.Next <= 1<<40 && v.Log >= 0 && v.Log <= 1<<40 && v.Seq <= 1<<56-1
	seen := map[int]bool{}
	for i, r := range v.Runs {
		right = right && edit.Right(api.Edit{Add: []api.Run{r}}) && !seen[r.File] && r.File < v.Next
		right = right && (i > 0 || v.Seq >= r.Seq) && (i == 0 || v.Runs[i-1].Seq > r.Seq)
		seen[r.File] = true
	}
	return right
}

// chapterApply asks for each error by itself, and makes the result run by run.
func chapterApply(v api.Version, e api.Edit) (api.Version, api.Errno) {
	if !chapterRight(v) || !edit.Right(e) {
		return api.Version{}, api.ErrArg
	}
	place, dropped := map[int]int{}, map[int]bool{}
	for i, r := range v.Runs {
		place[r.File] = i
	}
	first, last := len(v.Runs), -1
	for _, file := range e.Drop {
		at, ok := place[file]
		if !ok {
			return api.Version{}, api.ErrNone
		}
		dropped[file] = true
		first, last = min(first, at), max(last, at)
	}
	for _, r := range e.Add {
		if _, ok := place[r.File]; ok && !dropped[r.File] {
			return api.Version{}, api.ErrTwice
		}
	}
	if len(v.Runs)-len(e.Drop)+len(e.Add) > 1000 {
		return api.Version{}, api.ErrLong
	}
	gaps := len(e.Drop) > 0 && last-first+1 != len(e.Drop)
	less := e.Next != 0 && e.Next < v.Next || e.Log != 0 && e.Log < v.Log || e.Seq != 0 && e.Seq < v.Seq
	w := chapterResult(v, e, dropped)
	if gaps || less || !chapterRight(w) {
		return api.Version{}, api.ErrOrder
	}
	return w, api.OK
}

func chapterResult(v api.Version, e api.Edit, dropped map[int]bool) api.Version {
	w := v
	w.Runs = nil
	added := false
	add := func() {
		if !added {
			w.Runs = append(w.Runs, e.Add...)
			added = true
		}
	}
	if len(e.Drop) == 0 {
		add()
	}
	for _, r := range v.Runs {
		if dropped[r.File] {
			add()
		} else {
			w.Runs = append(w.Runs, r)
		}
	}
	if e.Next != 0 {
		w.Next = e.Next
	}
	if e.Log != 0 {
		w.Log = e.Log
	}
	if e.Seq != 0 {
		w.Seq = e.Seq
	}
	return w
}

func wantRight(t *testing.T, v api.Version, want bool) {
	t.Helper()
	if got := Right(v); got != want {
		t.Errorf("Right(%v) = %v, want %v", v, got, want)
	}
	if chapterRight(v) != want {
		t.Errorf("the chapter's words have %v for %v", !want, v)
	}
}

func wantRefused(t *testing.T, v api.Version, e api.Edit, want api.Errno) {
	t.Helper()
	if w, errno := Apply(v, e); !same(w, api.Version{}) || errno != want {
		t.Errorf("Apply(%v, %v) = %v, %d, want %d", v, e, w, errno, want)
	}
	wantAsChapter(t, v, e)
}

func wantAsChapter(t *testing.T, v api.Version, e api.Edit) api.Errno {
	t.Helper()
	want, wantErrno := chapterApply(v, e)
	if w, errno := Apply(v, e); !same(w, want) || errno != wantErrno {
		t.Errorf("Apply(%v, %v) = %v, %d, want %v, %d", v, e, w, errno, want, wantErrno)
	}
	return wantErrno
}

// wantFiles applies e to v, for runs of these files.
func wantFiles(t *testing.T, v api.Version, e api.Edit, want ...int) {
	t.Helper()
	w, errno := Apply(v, e)
	var got []int
	for _, r := range w.Runs {
		got = append(got, r.File)
	}
	if !slices.Equal(got, want) || errno != api.OK {
		t.Errorf("Apply(%v, %v) has the files %v, %d, want %v", v, e, got, errno, want)
	}
	wantAsChapter(t, v, e)
}

func TestP1701RightTakesValidVersions(t *testing.T) {
	for _, v := range validVersions() {
		wantRight(t, v, true)
	}
}

func TestP1701RightRefusesInvalidVersions(t *testing.T) {
	for _, v := range invalidVersions() {
		wantRight(t, v, false)
	}
}

func TestP1701RightCountsLengths(t *testing.T) {
	v := many(1001)
	v.Runs[1000].File = 0
	wantRight(t, v, false)
	// What lies behind the length is not a part of the version.
	v.Runs = v.Runs[:1000]
	wantRight(t, v, true)
}

func TestP1701RightOfSeqsThatAreNext(t *testing.T) {
	for _, seq := range []uint64{1, 2, 127, 1 << 32, 1<<56 - 3} {
		for _, x := range []struct {
			newer, older, last uint64
			right              bool
		}{
			{seq + 1, seq, seq + 1, true}, {seq + 1, seq, seq + 2, true}, {seq + 1, seq, seq, false}, {seq, seq, seq + 1, false}, {seq, seq + 1, seq + 1, false}, {seq + 2, seq, seq + 1, false}, {seq + 2, seq, 0, false},
		} {
			wantRight(t, api.Version{Runs: []api.Run{run(1, x.newer), run(2, x.older)}, Next: 3, Seq: x.last}, x.right)
		}
	}
}

func TestP1701ApplyOfTheZeroEdit(t *testing.T) {
	for _, v := range validVersions() {
		for _, e := range []api.Edit{{}, {Add: []api.Run{}, Drop: []int{}}, {Next: v.Next, Log: v.Log, Seq: v.Seq}} {
			if w, errno := Apply(v, e); !same(w, v) || errno != api.OK {
				t.Errorf("Apply(%v, %v) = %v, %d", v, e, w, errno)
			}
		}
	}
}

func TestP1701ApplyRefusesInvalidArguments(t *testing.T) {
	for _, v := range invalidVersions() {
		wantRefused(t, v, api.Edit{}, api.ErrArg)
		// The result would be valid.
		wantRefused(t, v, api.Edit{Next: top, Seq: api.MaxSeq}, api.ErrArg)
		wantRefused(t, v, api.Edit{Drop: []int{777777}}, api.ErrArg)
		if len(v.Runs) > 0 {
			wantRefused(t, v, api.Edit{Drop: []int{v.Runs[len(v.Runs)/2].File}}, api.ErrArg)
		}
		wantRefused(t, v, api.Edit{Next: -1}, api.ErrArg)
	}
	for _, e := range invalidEdits() {
		for _, v := range []api.Version{{Next: 1}, base(), many(1000)} {
			wantRefused(t, v, e, api.ErrArg)
		}
	}
}

func TestP1701ApplyPlacesAddedRuns(t *testing.T) {
	v := base()
	for _, x := range []struct {
		add  []api.Run
		drop []int
		want []int
	}{
		{nil, nil, []int{7, 2, 9, 4, 5}},
		{[]api.Run{run(3, 54)}, nil, []int{3, 7, 2, 9, 4, 5}},
		{[]api.Run{run(3, 54), run(1, 53), run(8, 52)}, nil, []int{3, 1, 8, 7, 2, 9, 4, 5}},
		{nil, []int{7}, []int{2, 9, 4, 5}},
		{nil, []int{9}, []int{7, 2, 4, 5}},
		{nil, []int{5}, []int{7, 2, 9, 4}},
		{nil, []int{5, 7, 9, 4, 2}, nil},
		{[]api.Run{run(3, 55)}, []int{7}, []int{3, 2, 9, 4, 5}},
		{[]api.Run{run(3, 39), run(1, 31)}, []int{2}, []int{7, 3, 1, 9, 4, 5}},
		{[]api.Run{run(3, 39)}, []int{4, 9, 2}, []int{7, 3, 5}},
		{[]api.Run{run(3, 49), run(1, 1)}, []int{4, 2, 5, 9}, []int{7, 3, 1}},
		{[]api.Run{run(3, 1)}, []int{5}, []int{7, 2, 9, 4, 3}},
		{[]api.Run{run(3, 19)}, []int{5}, []int{7, 2, 9, 4, 3}},
		{[]api.Run{run(3, 55), run(1, 1)}, []int{7, 2, 9, 4, 5}, []int{3, 1}},
		{[]api.Run{run(9, 39), run(2, 21)}, []int{2, 9}, []int{7, 9, 2, 4, 5}},
		{[]api.Run{run(2, 40)}, []int{2}, []int{7, 2, 9, 4, 5}},
	} {
		wantFiles(t, v, api.Edit{Add: x.add, Drop: x.drop}, x.want...)
	}
	wantFiles(t, api.Version{Next: 9}, api.Edit{Add: []api.Run{run(3, 2), run(8, 1)}, Seq: 2}, 3, 8)
}

// TestP1701ApplyReplacesTheDroppedRuns drops every stretch of runs, in both directions,
// for every number of new ones.
func TestP1701ApplyReplacesTheDroppedRuns(t *testing.T) {
	v := many(7)
	v.Seq = 7999
	for from := range v.Runs {
		for to := from + 1; to <= len(v.Runs); to++ {
			drop := files(v.Runs[from:to])
			for n := range 4 {
				var add []api.Run
				for i := range n {
					add = append(add, run(100+i, v.Runs[from].Seq+uint64(500-i)))
				}
				want := slices.Concat(files(v.Runs[:from]), files(add), files(v.Runs[to:]))
				wantFiles(t, v, api.Edit{Add: add, Drop: drop}, want...)
				slices.Reverse(drop)
				wantFiles(t, v, api.Edit{Add: add, Drop: drop}, want...)
			}
		}
	}
}

func TestP1701ApplyKeepsAllOfARun(t *testing.T) {
	kept := api.Run{File: 3, Bytes: 1 << 20, Count: 77, First: []byte("fi\x00"), Last: []byte("la\xff"), Seq: 5}
	added := api.Run{File: 4, Bytes: 9, Count: 1 << 24, First: []byte("\x00"), Last: []byte("zz"), Seq: 6}
	v := api.Version{Runs: []api.Run{run(1, 7), kept}, Next: 5, Log: 2, Seq: 7}
	want := api.Version{Runs: []api.Run{added, kept}, Next: 6, Log: 3, Seq: 8}
	w, errno := Apply(v, api.Edit{Add: []api.Run{added}, Drop: []int{1}, Next: 6, Log: 3, Seq: 8})
	if !same(w, want) || errno != api.OK {
		t.Errorf("Apply = %v, %d, want %v", w, errno, want)
	}
}

func TestP1701ApplyTakesNumbersThatAreNotZero(t *testing.T) {
	v := base()
	for _, next := range []int{0, 12, 13, 1 << 33, top} {
		for _, log := range []int{0, 11, 12, 1 << 33, top} {
			for _, seq := range []uint64{0, 55, 56, 1 << 33, api.MaxSeq} {
				want := v
				want.Next, want.Log, want.Seq = max(12, next), max(11, log), max(55, seq)
				w, errno := Apply(v, api.Edit{Next: next, Log: log, Seq: seq})
				if !same(w, want) || errno != api.OK {
					t.Errorf("Apply with %d, %d, %d = %v, %d", next, log, seq, w, errno)
				}
			}
		}
	}
	w, errno := Apply(api.Version{Next: 1}, api.Edit{Log: 1})
	if !same(w, api.Version{Next: 1, Log: 1}) || errno != api.OK {
		t.Errorf("Apply = %v, %d", w, errno)
	}
}

func TestP1701ApplyRefusesLesserNumbers(t *testing.T) {
	for _, v := range []api.Version{base(), {Next: 12, Log: 11, Seq: 55}} {
		for _, e := range []api.Edit{{Next: 11}, {Next: 1}, {Log: 10}, {Log: 1}, {Seq: 54}, {Seq: 1}, {Next: 11, Log: 12, Seq: 56}, {Next: 13, Log: 10, Seq: 56}, {Next: 13, Log: 12, Seq: 54}} {
			wantRefused(t, v, e, api.ErrOrder)
			// They are refused even where no run is left to be at odds with them.
			e.Drop = files(v.Runs)
			wantRefused(t, v, e, api.ErrOrder)
		}
	}
	high := api.Version{Next: top, Log: top, Seq: api.MaxSeq}
	for _, e := range []api.Edit{{Next: top - 1}, {Log: top - 1}, {Seq: api.MaxSeq - 1}} {
		wantRefused(t, high, e, api.ErrOrder)
	}
}

func TestP1701ApplyRefusesToDropWhatIsNotThere(t *testing.T) {
	v := base()
	for _, drop := range [][]int{{1}, {3}, {8}, {10}, {11}, {12}, {top}, {7, 1}, {1, 7}, {7, 2, 6}, {7, 2, 9, 4, 5, 6}, {6, 5, 4, 9, 2, 7}, {7, 1<<32 + 2}} {
		wantRefused(t, v, api.Edit{Drop: drop}, api.ErrNone)
		wantRefused(t, v, api.Edit{Drop: drop, Add: []api.Run{run(drop[0], 54)}}, api.ErrNone)
	}
	wantRefused(t, api.Version{Next: 5}, api.Edit{Drop: []int{1}}, api.ErrNone)
	hundred := api.Edit{}
	for i := range 100 {
		hundred.Drop = append(hundred.Drop, i+2)
	}
	wantRefused(t, many(100), hundred, api.ErrNone)
	if got := wantAsChapter(t, many(101), hundred); got != api.OK {
		t.Errorf("Apply with 100 dropped runs: %d", got)
	}
}

func TestP1701ApplyRefusesToAddWhatIsThere(t *testing.T) {
	v := base()
	for _, file := range []int{7, 2, 9, 4, 5} {
		wantRefused(t, v, api.Edit{Add: []api.Run{run(file, 54)}}, api.ErrTwice)
		wantRefused(t, v, api.Edit{Add: []api.Run{run(3, 54), run(1, 53), run(file, 52)}}, api.ErrTwice)
		wantRefused(t, v, api.Edit{Add: []api.Run{run(file, 54), run(3, 53)}}, api.ErrTwice)
		others := slices.DeleteFunc(files(v.Runs), func(x int) bool { return x == file })
		wantRefused(t, v, api.Edit{Add: []api.Run{run(file, 54)}, Drop: others}, api.ErrTwice)
		// That another run of the same file is dropped does not matter.
		wantRefused(t, v, api.Edit{Add: []api.Run{run(others[0], 54), run(file, 53)}, Drop: others[:1]}, api.ErrTwice)
		r := v.Runs[slices.Index(files(v.Runs), file)]
		wantFiles(t, v, api.Edit{Add: []api.Run{r}, Drop: []int{file}}, 7, 2, 9, 4, 5)
	}
}

func TestP1701ApplyRefusesMoreThanAThousandRuns(t *testing.T) {
	for _, x := range []struct {
		before, add, drop int
		want              api.Errno
	}{
		{999, 1, 0, api.OK}, {999, 2, 0, api.ErrLong}, {1000, 1, 0, api.ErrLong}, {1000, 1, 1, api.OK}, {1000, 2, 1, api.ErrLong},
		{900, 100, 0, api.OK}, {901, 100, 0, api.ErrLong}, {1000, 100, 100, api.OK}, {1000, 100, 99, api.ErrLong}, {999, 100, 99, api.OK}, {1000, 0, 100, api.OK}, {1000, 0, 0, api.OK},
	} {
		v := many(x.before)
		e := api.Edit{Seq: v.Seq}
		for i := range x.add {
			e.Add = append(e.Add, run(2000+i, v.Runs[0].Seq+uint64(100-i)))
		}
		e.Drop = files(v.Runs[:x.drop])
		if got := wantAsChapter(t, v, e); got != x.want {
			t.Errorf("Apply of %d and %d instead of %d: %d, want %d", x.before, x.add, x.drop, got, x.want)
		}
	}
}

func TestP1701ApplyRefusesGaps(t *testing.T) {
	v := base()
	for _, drop := range [][]int{{7, 9}, {9, 7}, {7, 5}, {5, 7}, {2, 4}, {9, 5}, {7, 2, 4}, {7, 9, 4}, {5, 7, 2}, {7, 2, 4, 5}, {7, 9, 4, 5}, {2, 7, 9, 5}, {2, 5}} {
		wantRefused(t, v, api.Edit{Drop: drop}, api.ErrOrder)
		wantRefused(t, v, api.Edit{Drop: drop, Add: []api.Run{run(drop[0], 54)}}, api.ErrOrder)
		wantRefused(t, v, api.Edit{Drop: drop, Add: []api.Run{run(3, 39)}, Seq: 99}, api.ErrOrder)
	}
}

func TestP1701ApplyRefusesInvalidResults(t *testing.T) {
	v := base()
	for _, e := range []api.Edit{
		// Not less than Next.
		{Add: []api.Run{run(12, 54)}}, {Add: []api.Run{run(13, 54)}, Next: 13}, {Add: []api.Run{run(3, 54), run(top, 53)}, Next: top}, {Add: []api.Run{run(12, 25)}, Drop: []int{9}},
		// Not newer than what follows.
		{Add: []api.Run{run(3, 50)}}, {Add: []api.Run{run(3, 49)}}, {Add: []api.Run{run(3, 20)}, Drop: []int{9}}, {Add: []api.Run{run(3, 1)}, Drop: []int{7}},
		// Not older than what is before.
		{Add: []api.Run{run(3, 40)}, Drop: []int{9}}, {Add: []api.Run{run(3, 41)}, Drop: []int{9}}, {Add: []api.Run{run(3, 20)}, Drop: []int{5}}, {Add: []api.Run{run(3, api.MaxSeq)}, Drop: []int{5}, Seq: api.MaxSeq},
		// Not in order among themselves.
		{Add: []api.Run{run(3, 53), run(1, 54)}}, {Add: []api.Run{run(3, 54), run(1, 54)}}, {Add: []api.Run{run(3, 35), run(1, 36)}, Drop: []int{9}},
		// Newer than the version.
		{Add: []api.Run{run(3, 56)}}, {Add: []api.Run{run(3, 57)}, Seq: 56}, {Add: []api.Run{run(3, 56)}, Drop: []int{7}}, {Add: []api.Run{run(3, 56)}, Drop: []int{7, 2, 9, 4, 5}},
	} {
		wantRefused(t, v, e, api.ErrOrder)
	}
	for _, e := range []api.Edit{
		{Add: []api.Run{run(12, 54)}, Next: 13}, {Add: []api.Run{run(top-1, 54)}, Next: top}, {Add: []api.Run{run(11, 54)}},
		{Add: []api.Run{run(3, 51)}}, {Add: []api.Run{run(3, 55)}}, {Add: []api.Run{run(3, 56)}, Seq: 56}, {Add: []api.Run{run(3, api.MaxSeq)}, Seq: api.MaxSeq},
		{Add: []api.Run{run(3, 39)}, Drop: []int{9}}, {Add: []api.Run{run(3, 21)}, Drop: []int{9}}, {Add: []api.Run{run(3, 39), run(1, 21)}, Drop: []int{9}},
	} {
		if got := wantAsChapter(t, v, e); got != api.OK {
			t.Errorf("Apply of %v: %d", e, got)
		}
	}
}

// TestP1701ApplyTellsTheFirstError has two flaws or more, of which the first one in the
// chapter's order counts.
func TestP1701ApplyTellsTheFirstError(t *testing.T) {
	v, full := base(), many(1000)
	bad := base()
	bad.Seq = 0
	for _, x := range []struct {
		v    api.Version
		e    api.Edit
		want api.Errno
	}{
		{bad, api.Edit{Drop: []int{1}}, api.ErrArg},
		{v, api.Edit{Drop: []int{1}, Next: -1}, api.ErrArg},
		{v, api.Edit{Drop: []int{1, 1}}, api.ErrArg},
		{bad, api.Edit{Add: []api.Run{run(7, 60)}}, api.ErrArg},
		{v, api.Edit{Add: []api.Run{run(7, 60)}, Drop: []int{1}}, api.ErrNone},
		{v, api.Edit{Drop: []int{7, 9, 1}}, api.ErrNone},
		{v, api.Edit{Drop: []int{1}, Next: 1}, api.ErrNone},
		{full, api.Edit{Add: runs(2000, 2, 1), Drop: []int{3000}}, api.ErrNone},
		{full, api.Edit{Add: runs(2000, 2, 1), Drop: []int{1, 3, 3000}}, api.ErrNone},
		{v, api.Edit{Add: []api.Run{run(7, 1)}, Drop: []int{2, 4}}, api.ErrTwice},
		{v, api.Edit{Add: []api.Run{run(7, 54)}, Log: 1}, api.ErrTwice},
		{full, api.Edit{Add: []api.Run{run(1, 5)}}, api.ErrTwice},
		{full, api.Edit{Add: []api.Run{run(1000, 5), run(2000, 4), run(2001, 3)}, Drop: []int{5}}, api.ErrTwice},
		{full, api.Edit{Add: []api.Run{run(20000, 5)}}, api.ErrLong},
		{full, api.Edit{Add: runs(2000, 3, 1), Drop: []int{4, 6}}, api.ErrLong},
		{full, api.Edit{Add: runs(2000, 2, 1), Drop: []int{4}, Seq: 1}, api.ErrLong},
		{full, api.Edit{Add: runs(2000, 2, 1), Drop: []int{4, 6}}, api.ErrOrder},
		{full, api.Edit{Add: runs(2000, 1, 1), Drop: []int{4}}, api.ErrOrder},
	} {
		wantRefused(t, x.v, x.e, x.want)
	}
}

// lists is all lists of up to n different ones of l.
func lists[T any](l []T, n int) [][]T {
	out := [][]T{nil}
	if n == 0 {
		return out
	}
	for i := range l {
		others := slices.Delete(slices.Clone(l), i, i+1)
		for _, tail := range lists(others, n-1) {
			out = append(out, append([]T{l[i]}, tail...))
		}
	}
	return out
}

// TestP1701ApplyOfAllSmallArguments takes all lists of few files in every order.
func TestP1701ApplyOfAllSmallArguments(t *testing.T) {
	var choice []api.Run
	for _, file := range []int{1, 2, 4, 6} {
		for _, seq := range []uint64{40, 25, 10} {
			choice = append(choice, run(file, seq))
		}
	}
	adds, drops := lists(choice, 2), lists([]int{1, 2, 3, 5}, 3)
	count := map[api.Errno]int{}
	for _, order := range lists([]int{1, 2, 3}, 3) {
		v := api.Version{Next: 6, Log: 6, Seq: 35}
		for i, file := range order {
			v.Runs = append(v.Runs, run(file, uint64(30-10*i)))
		}
		for _, add := range adds {
			for _, drop := range drops {
				count[wantAsChapter(t, v, api.Edit{Add: add, Drop: drop})]++
				count[wantAsChapter(t, v, api.Edit{Add: add, Drop: drop, Next: 7, Seq: 40})]++
			}
		}
	}
	for _, e := range []api.Errno{api.OK, api.ErrArg, api.ErrNone, api.ErrTwice, api.ErrOrder} {
		if count[e] < 200 {
			t.Errorf("%d of the arguments give %d", count[e], e)
		}
	}
}

// TestP1701ApplyOneAfterAnother lets a version grow and shrink by edits that mostly fit.
func TestP1701ApplyOneAfterAnother(t *testing.T) {
	x := uint32(7)
	next := func(n int) int {
		x = x*1664525 + 1013904223
		return int(x>>8) % n
	}
	v := api.Version{Next: 1}
	count := map[api.Errno]int{}
	longest := 0
	for range 2000 {
		var e api.Edit
		if n := len(v.Runs); n > 0 && next(2) == 0 {
			from := next(n)
			e.Drop = files(v.Runs[from:min(n, from+1+next(8))])
			e.Add = []api.Run{run(v.Next, v.Runs[from].Seq)}
			e.Next = v.Next + next(20)
		} else {
			for i := range 1 + next(12) {
				e.Add = append(e.Add, run(v.Next+i, v.Seq+uint64(20-i)))
			}
			e.Next, e.Seq = v.Next+12, v.Seq+20
		}
		e.Log = next(2) * (v.Log + next(3))
		w, errno := Apply(v, e)
		if wantAsChapter(t, v, e); errno == api.OK {
			wantRight(t, w, true)
			v = w
		}
		count[errno]++
		longest = max(longest, len(v.Runs))
	}
	if count[api.OK] < 1000 || count[api.ErrOrder] < 30 || longest < 900 {
		t.Errorf("up to %d runs, %v", longest, count)
	}
}

func wantLive(t *testing.T, v api.Version, want ...int) {
	t.Helper()
	if got := Live(v); !slices.Equal(got, want) {
		t.Errorf("Live(%v) = %v, want %v", v, got, want)
	}
}

// filesOnly is a version of runs that tell nothing but these files.
func filesOnly(log int, l ...int) api.Version {
	v := api.Version{Log: log}
	for _, file := range l {
		v.Runs = append(v.Runs, api.Run{File: file})
	}
	return v
}

func TestP1702Live(t *testing.T) {
	wantLive(t, base(), 2, 4, 5, 7, 9, 11)
	wantLive(t, api.Version{})
	wantLive(t, api.Version{Next: 5, Seq: 9})
	wantLive(t, api.Version{Log: 5}, 5)
	wantLive(t, filesOnly(0, 3), 3)
	wantLive(t, filesOnly(0, 3, 1, 2), 1, 2, 3)
	wantLive(t, filesOnly(2, 3, 1), 1, 2, 3)
	wantLive(t, filesOnly(1, 3, 2), 1, 2, 3)
	wantLive(t, filesOnly(9, 3, 2), 2, 3, 9)
	wantLive(t, filesOnly(top, top-1), top-1, top)
}

func TestP1702LiveTellsEachNumberOnce(t *testing.T) {
	wantLive(t, filesOnly(3, 3), 3)
	wantLive(t, filesOnly(3, 5, 3, 1), 1, 3, 5)
	wantLive(t, filesOnly(0, 3, 3, 3), 3)
	wantLive(t, filesOnly(7, 5, 7, 5, 7, 1, 1), 1, 5, 7)
}

func TestP1702LiveOfInvalidVersions(t *testing.T) {
	wantLive(t, filesOnly(-1), -1)
	wantLive(t, filesOnly(math.MinInt, math.MaxInt, 0, -5), math.MinInt, -5, 0, math.MaxInt)
	wantLive(t, filesOnly(0, 0), 0)
	wantLive(t, filesOnly(0, 0, math.MinInt, 0), math.MinInt, 0)
	wantLive(t, filesOnly(math.MaxInt, math.MinInt), math.MinInt, math.MaxInt)
	for _, v := range slices.Concat(invalidVersions(), validVersions()) {
		var want []int
		numbers := map[int]bool{v.Log: v.Log != 0}
		for _, r := range v.Runs {
			numbers[r.File] = true
		}
		for x, ok := range numbers {
			if ok {
				want = append(want, x)
			}
		}
		slices.Sort(want)
		wantLive(t, v, want...)
	}
}

// cloneRuns returns l without any memory in common.
func cloneRuns(l []api.Run) []api.Run {
	l = slices.Clone(l)
	for i := range l {
		l[i].First, l[i].Last = bytes.Clone(l[i].First), bytes.Clone(l[i].Last)
	}
	return l
}

func TestP1702ArgumentsStay(t *testing.T) {
	for _, e := range []api.Edit{
		{},
		{Add: []api.Run{run(3, 54), run(1, 53)}},
		{Add: []api.Run{run(3, 39), run(1, 38)}, Drop: []int{9, 2}},
		{Drop: []int{4, 2, 9}},
		{Drop: []int{7, 9}},
		{Add: []api.Run{run(2, 54)}},
		{Add: []api.Run{run(3, 99)}, Drop: []int{5, 4}},
	} {
		v := base()
		// The spare capacity behind them would hold what is appended.
		v.Runs = append(v.Runs, runs(500, 9, 1)...)[:len(v.Runs)]
		e.Add = append(slices.Clone(e.Add), runs(600, 9, 1)...)[:len(e.Add)]
		e.Drop = append(slices.Clone(e.Drop), 77, 78, 79)[:len(e.Drop)]
		key := []byte("key and more")
		v.Runs[1].First, v.Runs[1].Last = key[:3], key[:3]
		wantRuns, wantAdd, wantDrop := cloneRuns(v.Runs[:cap(v.Runs)]), cloneRuns(e.Add[:cap(e.Add)]), slices.Clone(e.Drop[:cap(e.Drop)])
		Right(v)
		Apply(v, e)
		Live(v)
		if !slices.EqualFunc(v.Runs[:cap(v.Runs)], wantRuns, sameRun) || string(key) != "key and more" {
			t.Errorf("the version changed to %v, %s", v, key)
		}
		if !slices.EqualFunc(e.Add[:cap(e.Add)], wantAdd, sameRun) || !slices.Equal(e.Drop[:cap(e.Drop)], wantDrop) {
			t.Errorf("the edit changed to %v", e)
		}
	}
}

func TestP1702VersionsAreNew(t *testing.T) {
	for _, drop := range [][]int{nil, {7}, {9, 2}, {5}} {
		v := base()
		at := max(0, slices.Index(files(v.Runs), slices.Min(append(drop, 7))))
		e := api.Edit{Add: []api.Run{run(3, 55), run(1, 54)}, Drop: drop, Seq: 60}
		if len(drop) > 0 {
			e.Add[0].Seq, e.Add[1].Seq = v.Runs[at].Seq, v.Runs[at].Seq-1
		}
		wantV, wantAdd := cloneRuns(v.Runs), cloneRuns(e.Add)
		first, errno := Apply(v, e)
		if errno != api.OK {
			t.Fatalf("Apply(%v, %v): %d", v, e, errno)
		}
		second, _ := Apply(v, e)
		want := cloneRuns(first.Runs)
		for _, r := range second.Runs {
			clear(r.First[:cap(r.First)])
			clear(r.Last[:cap(r.Last)])
		}
		clear(second.Runs[:cap(second.Runs)])
		if !slices.EqualFunc(v.Runs, wantV, sameRun) || !slices.EqualFunc(e.Add, wantAdd, sameRun) {
			t.Errorf("the arguments changed to %v, %v", v, e)
		}
		for _, r := range slices.Concat(v.Runs, e.Add) {
			clear(r.First)
			clear(r.Last)
		}
		clear(v.Runs)
		clear(e.Add)
		if !slices.EqualFunc(first.Runs, want, sameRun) {
			t.Errorf("the result changed to %v", first)
		}
	}
}

func TestP1702SlicesWithinAVersionAreSeparate(t *testing.T) {
	v := base()
	e := api.Edit{Add: []api.Run{run(3, 39), run(1, 38)}, Drop: []int{2}}
	// In the arguments all keys share their memory.
	shared := []byte("abc")
	for _, l := range [][]api.Run{v.Runs, e.Add} {
		for i := range l {
			l[i].First, l[i].Last = shared[:1], shared
		}
	}
	want, _ := chapterApply(v, e)
	for at := range 2 * len(want.Runs) {
		got, _ := Apply(v, e)
		r := &got.Runs[at/2]
		key := &r.First
		if at%2 == 1 {
			key = &r.Last
		}
		before := bytes.Clone(*key)
		clear((*key)[:cap(*key)])
		*key = before
		if !same(got, want) {
			t.Errorf("%d: the others changed to %v", at, got)
		}
	}
}

func TestP1702LiveIsNew(t *testing.T) {
	v := base()
	first, second := Live(v), Live(v)
	clear(second[:cap(second)])
	if want := []int{2, 4, 5, 7, 9, 11}; !slices.Equal(first, want) || !same(v, base()) {
		t.Errorf("the others changed to %v, %v", first, v)
	}
}

func TestP1702ResultsRepeat(t *testing.T) {
	edits := []api.Edit{{}, {Drop: []int{9, 2}}, {Add: []api.Run{run(3, 54)}}, {Add: []api.Run{run(3, 39)}, Drop: []int{2}}, {Drop: []int{7, 9}}, {Drop: []int{1}}}
	for _, v := range slices.Concat(validVersions(), invalidVersions()[:100]) {
		for _, e := range edits {
			right, live := Right(v), Live(v)
			w, errno := Apply(v, e)
			again, againErrno := Apply(v, e)
			if Right(v) != right || !slices.Equal(Live(v), live) || !same(again, w) || againErrno != errno {
				t.Errorf("results for %v, %v do not repeat", v, e)
			}
		}
	}
}
