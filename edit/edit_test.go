package edit

import (
	"bytes"
	"encoding/binary"
	"math"
	"slices"
	"strconv"
	"strings"
	"testing"

	"buttery/api"
)

const top = 1 << 40

func run(file int, first, last string, seq uint64) api.Run {
	return api.Run{File: file, Bytes: 100, Count: 3, First: []byte(first), Last: []byte(last), Seq: seq}
}

// runs is n valid runs from the file number from on.
func runs(from, n int) []api.Run {
	var l []api.Run
	for i := range n {
		l = append(l, run(from+i, "a", "b"+strconv.Itoa(i), uint64(i+1)))
	}
	return l
}

// files is n file numbers from the number from on.
func files(from, n int) []int {
	var l []int
	for i := range n {
		l = append(l, from+i)
	}
	return l
}

func text(n int) string { return strings.Repeat("x", n) }

// filled is n bytes c, without spare capacity.
func filled(n int, c byte) []byte { return slices.Clip(bytes.Repeat([]byte{c}, n)) }

// nums is the varints of l.
func nums(l ...uint64) []byte {
	var b []byte
	for _, x := range l {
		b = binary.AppendUvarint(b, x)
	}
	return b
}

func sameRun(a, b api.Run) bool {
	return a.File == b.File && a.Bytes == b.Bytes && a.Count == b.Count &&
		bytes.Equal(a.First, b.First) && bytes.Equal(a.Last, b.Last) && a.Seq == b.Seq
}

func same(a, b api.Edit) bool {
	return slices.EqualFunc(a.Add, b.Add, sameRun) && slices.Equal(a.Drop, b.Drop) &&
		a.Next == b.Next && a.Log == b.Log && a.Seq == b.Seq
}

// validRuns have all limits that a run can reach.
func validRuns() []api.Run {
	l := []api.Run{
		{File: 1, Bytes: 1, Count: 1, First: []byte{0}, Last: []byte{0}, Seq: 1},
		{File: top, Bytes: api.MaxFile, Count: api.MaxFile, First: filled(256, 255), Last: filled(256, 255), Seq: api.MaxSeq},
		// More entries than bytes are not ruled out.
		{File: 9, Bytes: 1, Count: api.MaxFile, First: []byte("a"), Last: []byte("b"), Seq: 5},
		{File: 10, Bytes: api.MaxFile, Count: 1, First: []byte("a"), Last: []byte("b"), Seq: 5},
		{File: 11, Bytes: 5, Count: 1, First: make([]byte, 1, 999), Last: make([]byte, 256, 999), Seq: 5},
	}
	keys := [][2]string{
		{"a", "a"}, {"a", "b"}, {"a", "aa"}, {"a", "a\x00"}, {"ab", "b"}, {text(256), "y"}, {"x", text(256)}, {text(256), text(256)},
		{"\x00", "\x00\x00"}, {"\x7f", "\x80"}, {"\x00", "\xff"}, {"\xfe\xff", "\xff"}, {"az", "b"}, {text(127), text(128)}, {text(128), text(129)},
	}
	for i, k := range keys {
		l = append(l, run(100+i, k[0], k[1], uint64(i+1)))
	}
	for i, x := range []int{2, 127, 128, 129, 1<<14 - 1, 1 << 14, 1 << 23, api.MaxFile - 1} {
		l = append(l,
			api.Run{File: x, Bytes: 7, Count: 8, First: []byte("a"), Last: []byte("b"), Seq: 9},
			api.Run{File: 200 + i, Bytes: x, Count: 8, First: []byte("a"), Last: []byte("b"), Seq: 9},
			api.Run{File: 300 + i, Bytes: 7, Count: x, First: []byte("a"), Last: []byte("b"), Seq: 9},
			api.Run{File: 400 + i, Bytes: 7, Count: 8, First: []byte("a"), Last: []byte("b"), Seq: uint64(x)})
	}
	return append(l, run(1<<32, "a", "b", 1<<32), run(1<<32+1, "a", "b", 1<<55), run(top-1, "a", "b", api.MaxSeq-1))
}

// outside is numbers that are in no range from least to most.
func outside(least, most int) []int {
	return []int{math.MinInt, math.MinInt + 1, -1 << 40, -1 << 32, -2, -1, least - 1, most + 1, most + 2, 1 << 41, 1<<62 + 1, math.MaxInt - 1, math.MaxInt}
}

func invalidSeqs() []uint64 {
	return []uint64{api.MaxSeq + 1, api.MaxSeq + 2, 1 << 57, 1<<63 - 1, 1 << 63, 1<<63 + 1, math.MaxUint64 - 1, math.MaxUint64}
}

func invalidRuns() []api.Run {
	l := []api.Run{{}}
	with := func(change func(r *api.Run)) {
		r := run(50, "f", "l", 5)
		change(&r)
		l = append(l, r)
	}
	for _, x := range outside(1, top) {
		with(func(r *api.Run) { r.File = x })
	}
	for _, x := range outside(1, 1<<24) {
		with(func(r *api.Run) { r.Bytes = x })
		with(func(r *api.Run) { r.Count = x })
	}
	for _, x := range append(invalidSeqs(), 0) {
		with(func(r *api.Run) { r.Seq = x })
	}
	for _, k := range [][2]string{
		{"", ""}, {"", "a"}, {"a", ""}, {"b", "a"}, {"aa", "a"}, {"a\x00", "a"}, {"b", "az"}, {"\x80", "\x7f"}, {"\xff", "\x00"}, {"\x00\x00", "\x00"},
		{text(256), text(255)}, {text(256), "w"}, {text(257), "y"}, {"a", text(257)}, {text(257), text(257)}, {text(512), text(513)}, {text(257), "a"}, {"", text(257)},
	} {
		with(func(r *api.Run) { r.First, r.Last = []byte(k[0]), []byte(k[1]) })
	}
	return append(l, api.Run{File: 50, Bytes: 1, Count: 1, First: nil, Last: []byte("a"), Seq: 1},
		api.Run{File: 50, Bytes: 1, Count: 1, First: []byte("a"), Last: nil, Seq: 1},
		api.Run{File: 50, Bytes: 1, Count: 1, First: make([]byte, 0, 9), Last: make([]byte, 0, 9), Seq: 1})
}

func validEdits() []api.Edit {
	l := []api.Edit{
		{},
		{Add: []api.Run{}, Drop: []int{}},
		{Next: 1}, {Log: 1}, {Seq: 1}, {Next: top}, {Log: top}, {Seq: api.MaxSeq}, {Next: 1 << 32, Log: 1<<32 + 1, Seq: 1 << 32},
		// Neither Next nor Log nor Seq has to be above those of the runs.
		{Add: runs(50, 2), Drop: []int{60}, Next: 1, Log: 1, Seq: 1},
		{Add: runs(7, 3), Drop: []int{300, 1, 40}, Next: 9, Log: 8, Seq: 400},
		{Add: runs(7, 3), Drop: files(7, 3), Next: 7, Log: 7, Seq: 7},
		{Add: runs(1, 100), Drop: files(1, 100), Next: top, Log: top, Seq: api.MaxSeq},
		{Add: runs(1, 100)[:50], Drop: files(1, 100)[:99]},
		{Drop: []int{1}}, {Drop: []int{top}}, {Drop: []int{top, 1, top - 1, 2}}, {Drop: []int{1, 1<<32 + 1}},
		{Add: []api.Run{run(1, "a", "b", 1), run(1<<32+1, "a", "b", 1)}},
		{Add: validRuns()},
	}
	for _, r := range validRuns() {
		l = append(l, api.Edit{Add: []api.Run{r}}, api.Edit{Add: []api.Run{run(1000, "a", "b", 1), r, run(999, "a", "b", 1)}, Drop: []int{r.File}})
	}
	for n := 1; n <= 100; n++ {
		l = append(l, api.Edit{Add: runs(n, n), Next: n}, api.Edit{Drop: files(n, n), Log: n}, api.Edit{Add: runs(n, 101-n), Drop: files(n, n)})
	}
	return l
}

// invalidEdits have one flaw each, or some of a kind.
func invalidEdits() []api.Edit {
	var l []api.Edit
	for _, n := range []int{101, 102, 200, 256, 356, 1000} {
		l = append(l, api.Edit{Add: runs(1, n)}, api.Edit{Drop: files(1, n)}, api.Edit{Add: runs(1, n), Drop: files(1, n)})
	}
	for _, x := range outside(0, top) {
		l = append(l, api.Edit{Next: x}, api.Edit{Log: x}, api.Edit{Next: x, Log: x}, api.Edit{Add: runs(1, 2), Drop: []int{5}, Next: x, Log: 5, Seq: 5})
	}
	for _, x := range invalidSeqs() {
		l = append(l, api.Edit{Seq: x}, api.Edit{Add: runs(1, 2), Drop: []int{5}, Next: 5, Log: 5, Seq: x})
	}
	for _, n := range []int{1, 2, 3, 100} {
		for _, at := range []int{0, n / 2, n - 1} {
			for _, r := range invalidRuns() {
				add := runs(1000, n)
				add[at] = r
				l = append(l, api.Edit{Add: add})
			}
			for _, x := range outside(1, top) {
				drop := files(1000, n)
				drop[at] = x
				l = append(l, api.Edit{Drop: drop})
			}
		}
	}
	return append(l, twiceEdits()...)
}

// twiceEdits have one file twice in Add or in Drop, at each two places.
func twiceEdits() []api.Edit {
	var l []api.Edit
	for _, n := range []int{2, 3, 5, 100} {
		for i := range n {
			for _, j := range []int{0, i - 1, n - 1} {
				if j < 0 || i == j {
					continue
				}
				add, drop := runs(1, n), files(1, n)
				add[i].File, drop[i] = add[j].File, drop[j]
				l = append(l, api.Edit{Add: add}, api.Edit{Drop: drop})
			}
		}
	}
	return append(l, api.Edit{Drop: slices.Repeat([]int{top}, 100)}, api.Edit{Add: slices.Repeat(runs(top, 1), 100)})
}

// chapterRight takes the chapter's words one by one.
func chapterRight(e api.Edit) bool {
	added, dropped := map[int]bool{}, map[int]bool{}
	right := len(e.Add) <= 100 && len(e.Drop) <= 100 && e.Next >= 0 && e.Next <= 1<<40 && e.Log >= 0 && e.Log <= 1<<40 && e.Seq <= 1<<56-1
	for _, r := range e.Add {
		right = right && r.File >= 1 && r.File <= 1<<40 && r.Bytes >= 1 && r.Bytes <= 1<<24 && r.Count >= 1 && r.Count <= 1<<24
		right = right && len(r.First) >= 1 && len(r.First) <= 256 && len(r.Last) >= 1 && len(r.Last) <= 256 && string(r.First) <= string(r.Last)
		right = right && r.Seq >= 1 && r.Seq <= 1<<56-1 && !added[r.File]
		added[r.File] = true
	}
	for _, f := range e.Drop {
		right = right && f >= 1 && f <= 1<<40 && !dropped[f]
		dropped[f] = true
	}
	return right
}

// chapterBytes encodes any edit, valid or not.
func chapterBytes(e api.Edit) []byte {
	b := nums(uint64(len(e.Add)))
	for _, r := range e.Add {
		b = append(b, nums(uint64(r.File), uint64(r.Bytes), uint64(r.Count), uint64(len(r.First)))...)
		b = append(b, r.First...)
		b = append(b, nums(uint64(len(r.Last)))...)
		b = append(b, r.Last...)
		b = append(b, nums(r.Seq)...)
	}
	b = append(b, nums(uint64(len(e.Drop)))...)
	for _, f := range e.Drop {
		b = append(b, nums(uint64(f))...)
	}
	return append(b, nums(uint64(e.Next), uint64(e.Log), e.Seq)...)
}

// chapterNumber takes a varint of up to most from the front of b.
func chapterNumber(b []byte, most uint64) (uint64, []byte, api.Errno) {
	x, used := binary.Uvarint(b)
	noNumber := used < 0 || used == 0 && len(b) >= 10 || used > 1 && b[used-1] == 0
	if noNumber || x > most {
		return 0, nil, api.ErrSyntax
	}
	if used == 0 {
		return 0, nil, api.ErrShort
	}
	return x, b[used:], api.OK
}

// chapterRead goes through b with a list of what is to come: 'n' a number, 't' a
// text, 'r' the number of runs, 'd' that of dropped files.
func chapterRead(b []byte) (api.Edit, api.Errno) {
	most := map[byte]uint64{'n': math.MaxUint64, 't': 256, 'r': 100, 'd': 100}
	var numbers []uint64
	var texts [][]byte
	var added, dropped int
	for plan := "rdnnn"; plan != ""; {
		step := plan[0]
		plan = plan[1:]
		x, rest, e := chapterNumber(b, most[step])
		if e != api.OK {
			return api.Edit{}, e
		}
		b = rest
		switch step {
		case 'n':
			numbers = append(numbers, x)
		case 't':
			if uint64(len(b)) < x {
				return api.Edit{}, api.ErrShort
			}
			texts, b = append(texts, b[:x]), b[x:]
		case 'r':
			added = int(x)
			plan = strings.Repeat("nnnttn", added) + plan
		case 'd':
			dropped = int(x)
			plan = strings.Repeat("n", dropped) + plan
		}
	}
	if x := chapterEdit(numbers, texts, added, dropped); len(b) == 0 && chapterRight(x) {
		return x, api.OK
	}
	return api.Edit{}, api.ErrSyntax
}

// chapterEdit lays what was read together: four numbers and two texts for each run, a
// number for each dropped file, and the last three.
func chapterEdit(numbers []uint64, texts [][]byte, added, dropped int) api.Edit {
	var x api.Edit
	for i := range added {
		n, t := numbers[4*i:], texts[2*i:]
		x.Add = append(x.Add, api.Run{File: int(n[0]), Bytes: int(n[1]), Count: int(n[2]), First: t[0], Last: t[1], Seq: n[3]})
	}
	for i := range dropped {
		x.Drop = append(x.Drop, int(numbers[4*added+i]))
	}
	n := numbers[4*added+dropped:]
	x.Next, x.Log, x.Seq = int(n[0]), int(n[1]), n[2]
	return x
}

func wantRight(t *testing.T, e api.Edit, want bool) {
	t.Helper()
	if got := Right(e); got != want {
		t.Errorf("Right(%v) = %v, want %v", e, got, want)
	}
	if chapterRight(e) != want {
		t.Errorf("the chapter's words have %v for %v", !want, e)
	}
}

func wantRefused(t *testing.T, b []byte, want api.Errno) {
	t.Helper()
	if x, e := Read(b); !same(x, api.Edit{}) || e != want {
		t.Errorf("Read(%v) = %v, %d, want %d", b, x, e, want)
	}
}

func wantAsChapter(t *testing.T, b []byte) api.Errno {
	t.Helper()
	want, wantE := chapterRead(b)
	if x, e := Read(b); !same(x, want) || e != wantE {
		t.Errorf("Read(%v) = %v, %d, want %v, %d", b, x, e, want, wantE)
	}
	return wantE
}

func TestP1601RightTakesValidEdits(t *testing.T) {
	for _, e := range validEdits() {
		wantRight(t, e, true)
	}
}

func TestP1601RightRefusesInvalidEdits(t *testing.T) {
	for _, e := range invalidEdits() {
		wantRight(t, e, false)
	}
}

func TestP1601RightCountsLengths(t *testing.T) {
	wantRight(t, api.Edit{Add: runs(1, 200)[:100], Drop: files(1, 200)[:100]}, true)
	wantRight(t, api.Edit{Add: []api.Run{{File: 1, Bytes: 1, Count: 1, First: make([]byte, 999)[:256], Last: make([]byte, 999)[:256], Seq: 1}}}, true)
	// What lies behind the length is not a part of the edit.
	add, drop := runs(1, 3), files(1, 3)
	add[2], drop[2] = api.Run{}, 0
	wantRight(t, api.Edit{Add: add[:2], Drop: drop[:2]}, true)
	wantRight(t, api.Edit{Add: add}, false)
	wantRight(t, api.Edit{Drop: drop}, false)
}

func TestP1601AFileMayBeAddedAndDropped(t *testing.T) {
	for n := 1; n <= 100; n++ {
		wantRight(t, api.Edit{Add: runs(1, n), Drop: files(1, n)}, true)
	}
}

func TestP1601RightRunsTakesAnyNumberOfRuns(t *testing.T) {
	for _, l := range [][]api.Run{nil, {}, runs(1, 1), runs(1, 100), runs(1, 101), runs(1, 2000), runs(top, 1), runs(top-1999, 2000), validRuns()} {
		if !RightRuns(l) {
			t.Errorf("RightRuns of %d runs is false", len(l))
		}
	}
}

func TestP1601RightRunsJudgesAsRight(t *testing.T) {
	for _, e := range slices.Concat(validEdits(), invalidEdits()) {
		if len(e.Add) > 100 {
			continue
		}
		if got, want := RightRuns(e.Add), chapterRight(api.Edit{Add: e.Add}); got != want {
			t.Errorf("RightRuns(%v) = %v", e.Add, got)
		}
	}
	for _, at := range []int{0, 100, 999, 1999} {
		for _, r := range invalidRuns() {
			l := runs(1, 2000)
			l[at] = r
			if RightRuns(l) {
				t.Errorf("RightRuns is true with %v at %d", r, at)
			}
		}
		l := runs(1, 2000)
		l[at].File = 500
		if RightRuns(l) {
			t.Errorf("RightRuns is true with a file twice, at %d", at)
		}
	}
}

func TestP1601BytesExamples(t *testing.T) {
	for _, x := range []struct {
		e    api.Edit
		want []byte
	}{
		{api.Edit{}, []byte{0, 0, 0, 0, 0}},
		{api.Edit{Next: 1, Log: 2, Seq: 3}, []byte{0, 0, 1, 2, 3}},
		{api.Edit{Drop: []int{5, 4}, Next: 300}, []byte{0, 2, 5, 4, 172, 2, 0, 0}},
		{api.Edit{Add: []api.Run{{File: 7, Bytes: 300, Count: 2, First: []byte("a"), Last: []byte("bc"), Seq: 9}}, Log: 8}, []byte{1, 7, 172, 2, 2, 1, 'a', 2, 'b', 'c', 9, 0, 0, 8, 0}},
		{
			api.Edit{Add: []api.Run{run(2, "a", "a", 6), run(1, "\x00", "\xff", 5)}, Drop: []int{1}, Next: 3, Log: 4, Seq: 5},
			[]byte{2, 2, 100, 3, 1, 'a', 1, 'a', 6, 1, 100, 3, 1, 0, 1, 255, 5, 1, 1, 3, 4, 5},
		},
		{api.Edit{Seq: api.MaxSeq}, []byte{0, 0, 0, 0, 255, 255, 255, 255, 255, 255, 255, 127}},
		{api.Edit{Next: top}, []byte{0, 0, 128, 128, 128, 128, 128, 32, 0, 0}},
	} {
		if got := Bytes(x.e); !bytes.Equal(got, x.want) {
			t.Errorf("Bytes(%v) = %v, want %v", x.e, got, x.want)
		}
	}
}

func TestP1601BytesAreThoseOfTheChapter(t *testing.T) {
	for _, e := range validEdits() {
		if got := Bytes(e); !bytes.Equal(got, chapterBytes(e)) {
			t.Errorf("Bytes(%v) = %v, want %v", e, got, chapterBytes(e))
		}
	}
}

func TestP1601BytesOfAnInvalidEditAreNone(t *testing.T) {
	for _, e := range invalidEdits() {
		if got := Bytes(e); len(got) != 0 {
			t.Errorf("Bytes(%v) = %v", e, got)
		}
	}
}

func TestP1601ReadRefusesEveryPartOfAnEdit(t *testing.T) {
	for _, e := range validEdits() {
		b := chapterBytes(e)
		step := 1 + len(b)/300
		for n := 0; n < len(b); n += step {
			wantRefused(t, b[:n], api.ErrShort)
		}
		wantRefused(t, b[:len(b)-1], api.ErrShort)
		wantRefused(t, slices.Clip(b[:len(b)-1]), api.ErrShort)
	}
}

func TestP1601ReadRefusesWhatFollows(t *testing.T) {
	for _, e := range validEdits() {
		b := chapterBytes(e)
		for _, after := range [][]byte{{0}, {1}, {128}, {255}, chapterBytes(api.Edit{}), make([]byte, 300)} {
			wantRefused(t, slices.Concat(b, after), api.ErrSyntax)
		}
	}
}

func TestP1601ReadRefusesInvalidEditsAtTheEnd(t *testing.T) {
	for _, e := range invalidEdits() {
		b := chapterBytes(e)
		wantRefused(t, b, api.ErrSyntax)
		wantRefused(t, append(b, 0), api.ErrSyntax)
		if tooMany := len(e.Add) > 100 || len(e.Drop) > 100; tooMany || hasLongKey(e) {
			continue
		}
		// Until its end such an edit is only incomplete.
		for _, n := range []int{0, 1, len(b) / 2, len(b) - 2, len(b) - 1} {
			wantRefused(t, b[:n], api.ErrShort)
		}
	}
}

func hasLongKey(e api.Edit) bool {
	return slices.ContainsFunc(e.Add, func(r api.Run) bool { return len(r.First) > 256 || len(r.Last) > 256 })
}

// great is numbers that are above a limit, whatever is kept of them.
func great(most uint64) []uint64 {
	return []uint64{most + 1, most + 2, most + 28, 300, 4096, 1 << 31, 1 << 32, 1<<32 + 1, 1<<63 - 1, 1 << 63, 1<<63 + 1, math.MaxUint64 - 1, math.MaxUint64}
}

func TestP1601ReadJudgesNumbersOfElementsAtOnce(t *testing.T) {
	for _, before := range [][]byte{nil, {0}, slices.Clip(append([]byte{1}, chapterRun(run(5, "a", "b", 1))...)), append([]byte{1}, nums(0, 0, 0, 0, 0, 0)...)} {
		for _, n := range great(100) {
			b := binary.AppendUvarint(before, n)
			wantRefused(t, b, api.ErrSyntax)
			wantRefused(t, append(b, 1, 2, 3), api.ErrSyntax)
			wantRefused(t, append(b, 128), api.ErrSyntax)
			wantRefused(t, append(b, make([]byte, 5000)...), api.ErrSyntax)
		}
		for n := uint64(1); n <= 100; n++ {
			wantRefused(t, binary.AppendUvarint(before, n), api.ErrShort)
		}
	}
}

// chapterRun is a run as it is within an edit.
func chapterRun(r api.Run) []byte {
	b := chapterBytes(api.Edit{Add: []api.Run{r}})
	return b[1 : len(b)-4]
}

func TestP1601ReadJudgesLengthsAtOnce(t *testing.T) {
	firstRun := chapterRun(run(5, "a", "b", 1))
	for _, before := range [][]byte{
		nums(1, 3, 5, 5),
		append(nums(1, 3, 5, 5, 1), 'a'),
		nums(1, 3, 5, 5, 0),
		slices.Concat(nums(2), firstRun, nums(6, 5, 5)),
		slices.Concat(nums(2), firstRun, nums(6, 5, 5, 1), []byte("a")),
	} {
		before = slices.Clip(before)
		for _, n := range great(256) {
			if n <= 256 {
				continue
			}
			b := binary.AppendUvarint(before, n)
			wantRefused(t, b, api.ErrSyntax)
			wantRefused(t, append(b, text(100)...), api.ErrSyntax)
			wantRefused(t, append(b, text(5000)...), api.ErrSyntax)
		}
		for _, n := range []uint64{0, 1, 2, 127, 128, 255, 256} {
			b := slices.Clip(binary.AppendUvarint(before, n))
			wantRefused(t, b, api.ErrShort)
			wantRefused(t, append(b, text(max(0, int(n)-1))...), api.ErrShort)
			wantRefused(t, append(b, text(int(n))...), api.ErrShort)
		}
	}
}

func TestP1601ReadJudgesOtherNumbersAtTheEnd(t *testing.T) {
	whole := func(file, size, count, seq, drop, next, log, last uint64) []byte {
		run := slices.Concat(nums(file, size, count, 1), []byte("a"), nums(1), []byte("b"), nums(seq))
		return slices.Concat(nums(1), run, nums(1, drop, next, log, last))
	}
	good := [8]uint64{5, 6, 7, 8, 9, 10, 11, 12}
	for at := range good {
		for _, x := range []uint64{0, 1 << 24, 1<<24 + 1, 1 << 40, 1<<40 + 1, 1<<56 - 1, 1 << 56, 1<<63 - 1, 1 << 63, 1<<63 + 5, 1<<64 - 5, math.MaxUint64} {
			v := good
			v[at] = x
			b := whole(v[0], v[1], v[2], v[3], v[4], v[5], v[6], v[7])
			mayBeZero := at >= 5
			limit := [8]uint64{1 << 40, 1 << 24, 1 << 24, 1<<56 - 1, 1 << 40, 1 << 40, 1 << 40, 1<<56 - 1}[at]
			want := api.OK
			if x > limit || x == 0 && !mayBeZero {
				want = api.ErrSyntax
			}
			if got := wantAsChapter(t, b); got != want {
				t.Errorf("%d at %d: %d, want %d", x, at, got, want)
			}
			for n := range b {
				wantRefused(t, b[:n], api.ErrShort)
			}
		}
	}
}

func TestP1601ReadRefusesInvalidVarints(t *testing.T) {
	nine := filled(9, 255)
	one := append(nums(1, 3, 5, 5, 1), 'a', 1, 'b')
	for at, before := range [][]byte{
		nil, nums(0), nums(1), nums(1, 3), nums(1, 3, 5), nums(1, 3, 5, 5), one[:6], one,
		append(slices.Clip(one), 9), nums(0, 1), nums(0, 2, 3), nums(0, 0), nums(0, 0, 0), nums(0, 0, 0, 0),
	} {
		for _, varint := range [][]byte{{128, 0}, {129, 0}, {129, 128, 0}, append(nine, 0), append(nine, 2), append(nine, 128), append(nine, 255)} {
			wantRefused(t, slices.Concat(before, varint), api.ErrSyntax)
			wantRefused(t, slices.Concat(before, varint, make([]byte, 100)), api.ErrSyntax)
		}
		// Until its last byte no number is read, however great it must become.
		for n := 1; n <= 9; n++ {
			wantRefused(t, slices.Concat(before, nine[:n]), api.ErrShort)
		}
		if t.Failed() {
			t.Fatalf("at %d", at)
		}
	}
}

// TestP1601ReadTellsTheFirstError has two flaws, of which the first one counts.
func TestP1601ReadTellsTheFirstError(t *testing.T) {
	for _, x := range []struct {
		b []byte
		e api.Errno
	}{
		{nil, api.ErrShort},
		{[]byte{}, api.ErrShort},
		{[]byte{101}, api.ErrSyntax},
		{[]byte{128}, api.ErrShort},
		{[]byte{1, 0}, api.ErrShort},
		{[]byte{1, 0, 0, 0, 0, 0, 0}, api.ErrShort},
		{[]byte{1, 0, 0, 0, 0, 0, 0, 0, 0, 0}, api.ErrShort},
		{[]byte{1, 0, 0, 0, 0, 0, 0, 0, 0, 0, 0}, api.ErrSyntax},
		{[]byte{1, 0, 0, 0, 129, 2}, api.ErrSyntax},
		{[]byte{1, 0, 0, 0, 128, 2}, api.ErrShort},
		{[]byte{1, 1, 1, 1, 2, 'a', 129, 2}, api.ErrShort},
		{[]byte{1, 1, 1, 1, 2, 'a', 129, 2, 2}, api.ErrShort},
		{[]byte{1, 1, 1, 1, 2, 'a', 129, 129, 2}, api.ErrSyntax},
		{[]byte{2, 5, 1, 1, 1, 'a', 1, 'a', 1, 5, 1, 1, 1, 'a', 1, 'a', 1, 0, 0, 0}, api.ErrShort},
		{[]byte{0, 2, 5, 5, 0, 0}, api.ErrShort},
		{[]byte{0, 2, 5, 5, 0, 0, 0}, api.ErrSyntax},
		{[]byte{0, 2, 5, 5, 0, 0, 128, 0}, api.ErrSyntax},
		{[]byte{0, 2, 5, 5, 0, 0, 128}, api.ErrShort},
		{[]byte{0, 2, 5, 6, 0, 0, 0}, api.OK},
	} {
		if got := wantAsChapter(t, x.b); got != x.e {
			t.Errorf("%v: %d, want %d", x.b, got, x.e)
		}
	}
}

// TestP1601ReadOfAnyByteAnywhere gives every place of an edit every value, whole and
// cut off at every place.
func TestP1601ReadOfAnyByteAnywhere(t *testing.T) {
	count := map[api.Errno]int{}
	for _, e := range []api.Edit{
		{},
		{Add: []api.Run{run(7, "ab", "b", 300), run(1<<32, "c", "cd", 2)}, Drop: []int{1, 300}, Next: 9, Log: 130, Seq: api.MaxSeq},
	} {
		whole := chapterBytes(e)
		for at := range whole {
			for c := range 256 {
				b := slices.Clone(whole)
				b[at] = byte(c)
				for n := range len(b) + 1 {
					count[wantAsChapter(t, b[:n])]++
				}
				for _, after := range [][]byte{{0}, {1, 1}, filled(20, 1), filled(700, 1)} {
					count[wantAsChapter(t, append(b, after...))]++
				}
			}
		}
	}
	for _, e := range []api.Errno{api.OK, api.ErrShort, api.ErrSyntax} {
		if count[e] < 200 {
			t.Errorf("%d of the lists give %d", count[e], e)
		}
	}
}

// TestP1601ReadOfAllShortLists takes every list of up to seven bytes out of some that
// differ for the decoder.
func TestP1601ReadOfAllShortLists(t *testing.T) {
	choice := []byte{0, 1, 2, 101, 128}
	lists := [][]byte{nil}
	for i := 0; i < len(lists); i++ {
		b := lists[i]
		wantAsChapter(t, b)
		if len(b) < 7 {
			for _, c := range choice {
				lists = append(lists, append(slices.Clone(b), c))
			}
		}
	}
}

// TestP1601ReadOfDamage changes valid encodings here and there.
func TestP1601ReadOfDamage(t *testing.T) {
	x := uint32(1)
	next := func(n int) int {
		x = x*1664525 + 1013904223
		return int(x>>8) % n
	}
	telling := []byte{0, 1, 2, 3, 100, 101, 127, 128, 129, 130, 254, 255}
	for _, v := range validEdits()[:150] {
		whole := chapterBytes(v)
		for range 300 {
			b := slices.Clone(whole)
			for range 1 + next(3) {
				at := next(min(len(b), 40))
				switch c := telling[next(len(telling))]; next(3) {
				case 0:
					b[at] = c
				case 1:
					b = slices.Insert(b, at, c)
				case 2:
					b = slices.Delete(b, at, at+1)
				}
				if len(b) == 0 {
					break
				}
			}
			if wantAsChapter(t, b) != api.OK {
				continue
			}
			read, _ := Read(b)
			if again := Bytes(read); !bytes.Equal(again, b) {
				t.Errorf("Read(%v) = %v, which Bytes encodes as %v", b, read, again)
			}
		}
	}
}

func TestP1601ReadDoesNotReadBeyondTheLength(t *testing.T) {
	e := api.Edit{Add: runs(1, 2), Drop: []int{5}, Next: 6, Log: 7, Seq: 8}
	whole := chapterBytes(e)
	before := append(slices.Clone(whole), 0, 1, 'x')
	if got, errno := Read(before[:len(whole)]); !same(got, e) || errno != api.OK {
		t.Errorf("Read = %v, %d", got, errno)
	}
}

func TestP1602ReadReadsWhatBytesWrote(t *testing.T) {
	for _, e := range validEdits() {
		if got, errno := Read(Bytes(e)); !same(got, e) || errno != api.OK {
			t.Errorf("Read of %v = %v, %d", e, got, errno)
		}
	}
}

// clone returns e without any memory in common.
func clone(e api.Edit) api.Edit {
	e.Add, e.Drop = slices.Clone(e.Add), slices.Clone(e.Drop)
	for i := range e.Add {
		r := &e.Add[i]
		r.First, r.Last = bytes.Clone(r.First), bytes.Clone(r.Last)
	}
	return e
}

func TestP1602ArgumentsStay(t *testing.T) {
	// The files are not in order, so that ordering them would show.
	e := api.Edit{Add: slices.Concat(runs(60, 2), runs(7, 5)), Drop: []int{9, 3, 300, 1}, Next: 9, Log: 8, Seq: 7}
	invalid := clone(e)
	invalid.Drop[3] = 9
	for _, x := range []api.Edit{e, invalid} {
		// The spare capacity behind them would hold what is appended.
		x.Add = append(x.Add, runs(500, 9)...)[:len(x.Add)]
		x.Drop = append(x.Drop, 77, 78, 79)[:len(x.Drop)]
		key := []byte("key and more")
		x.Add[0].First, x.Add[0].Last = key[:3], key[:3]
		want := clone(api.Edit{Add: x.Add[:cap(x.Add)], Drop: x.Drop[:cap(x.Drop)]})
		Right(x)
		Bytes(x)
		if !same(api.Edit{Add: x.Add[:cap(x.Add)], Drop: x.Drop[:cap(x.Drop)]}, want) || string(key) != "key and more" {
			t.Errorf("the argument changed to %v, %s", x, key)
		}
	}
	b := append(chapterBytes(e), 9, 0, 250, 1)
	before := bytes.Clone(b)
	for n := range b {
		Read(b[:n])
	}
	if !bytes.Equal(b, before) {
		t.Errorf("the argument changed to %v", b)
	}
}

func TestP1602BytesAreNew(t *testing.T) {
	e := api.Edit{Add: runs(7, 2), Drop: []int{5, 4}}
	want, asItWas := chapterBytes(e), clone(e)
	first, second := Bytes(e), Bytes(e)
	clear(second[:cap(second)])
	e.Add[0].First[0], e.Drop[0] = 'A', 6
	if !bytes.Equal(first, want) {
		t.Errorf("Bytes changed to %v", first)
	}
	e.Add[0].First[0], e.Drop[0] = 'a', 5
	clear(first[:cap(first)])
	if !same(e, asItWas) {
		t.Errorf("the argument changed to %v", e)
	}
}

func TestP1602EditsReadAreNew(t *testing.T) {
	want := api.Edit{Add: runs(7, 2), Drop: []int{5, 4}, Next: 3}
	b := chapterBytes(want)
	first, _ := Read(b)
	second, _ := Read(b)
	for _, r := range first.Add {
		clear(r.First[:cap(r.First)])
		clear(r.Last[:cap(r.Last)])
	}
	clear(first.Add[:cap(first.Add)])
	clear(first.Drop[:cap(first.Drop)])
	if !bytes.Equal(b, chapterBytes(want)) {
		t.Errorf("the argument changed to %v", b)
	}
	clear(b)
	if !same(second, want) {
		t.Errorf("the edit changed to %v", second)
	}
}

func TestP1602SlicesWithinAnEditReadAreSeparate(t *testing.T) {
	want := api.Edit{Add: runs(7, 3), Drop: []int{5, 4}}
	for at := range 2 * len(want.Add) {
		got, _ := Read(chapterBytes(want))
		r := &got.Add[at/2]
		key := &r.First
		if at%2 == 1 {
			key = &r.Last
		}
		before := bytes.Clone(*key)
		clear((*key)[:cap(*key)])
		*key = before
		if !same(got, want) {
			t.Errorf("%d: the others changed to %v", at, got)
		}
	}
}

func TestP1602ResultsRepeat(t *testing.T) {
	for _, e := range slices.Concat(validEdits()[:60], invalidEdits()[:200]) {
		right, b := Right(e), Bytes(e)
		read, errno := Read(b)
		for range 2 {
			again, againErrno := Read(b)
			if Right(e) != right || !bytes.Equal(Bytes(e), b) || !same(again, read) || againErrno != errno {
				t.Errorf("results for %v do not repeat", e)
			}
		}
	}
}
