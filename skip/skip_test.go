package skip

import (
	"bytes"
	"math"
	"math/rand"
	"slices"
	"strings"
	"testing"

	"buttery/api"
	"buttery/ikey"
)

func text(n int) string { return strings.Repeat("x", n) }

func key(k string, seq uint64, kind int) api.IKey {
	return api.IKey{Key: []byte(k), Seq: seq, Kind: kind}
}

func put(k string, seq uint64, v string) api.Entry {
	return api.Entry{Key: key(k, seq, api.Put), Value: []byte(v)}
}

func del(k string, seq uint64) api.Entry { return api.Entry{Key: key(k, seq, api.Delete)} }

func sameEntry(a, b api.Entry) bool {
	return bytes.Equal(a.Key.Key, b.Key.Key) && a.Key.Seq == b.Key.Seq && a.Key.Kind == b.Key.Kind && bytes.Equal(a.Value, b.Value)
}

func same(a, b []api.Entry) bool { return slices.EqualFunc(a, b, sameEntry) }

func zero(e api.Entry) bool {
	return len(e.Key.Key) == 0 && e.Key.Seq == 0 && e.Key.Kind == 0 && len(e.Value) == 0
}

func copied(e api.Entry) api.Entry {
	e.Key.Key, e.Value = bytes.Clone(e.Key.Key), bytes.Clone(e.Value)
	return e
}

// chapterList is the chapter a second time: entries as they came, with their heights.
type chapterList struct {
	entries []api.Entry
	heights []int
}

func (c *chapterList) insert(e api.Entry, height int) api.Errno {
	known := e.Key.Kind == api.Delete || e.Key.Kind == api.Put
	if len(e.Key.Key) < 1 || len(e.Key.Key) > 256 || e.Key.Seq > 1<<56-1 || !known {
		return api.ErrArg
	}
	if len(e.Value) > 4096 || e.Key.Kind == api.Delete && len(e.Value) > 0 {
		return api.ErrArg
	}
	for _, other := range c.entries {
		if bytes.Equal(other.Key.Key, e.Key.Key) && other.Key.Seq == e.Key.Seq && other.Key.Kind == e.Key.Kind {
			return api.ErrTwice
		}
	}
	if height < 1 {
		height = 1
	}
	if height > 12 {
		height = 12
	}
	c.entries = append(c.entries, copied(e))
	c.heights = append(c.heights, height)
	return api.OK
}

func (c *chapterList) level(i int) []api.Entry {
	var l []api.Entry
	for n, e := range c.entries {
		if i >= 0 && i < c.heights[n] {
			l = append(l, e)
		}
	}
	slices.SortFunc(l, func(a, b api.Entry) int { return ikey.Compare(a.Key, b.Key) })
	return l
}

func (c *chapterList) first(fits func(api.Entry) bool) (api.Entry, bool) {
	for _, e := range c.level(0) {
		if fits(e) {
			return e, true
		}
	}
	return api.Entry{}, false
}

func (c *chapterList) get(k []byte, seq uint64) (api.Entry, bool) {
	return c.first(func(e api.Entry) bool { return bytes.Equal(e.Key.Key, k) && e.Key.Seq <= seq })
}

func (c *chapterList) seek(k api.IKey) (api.Entry, bool) {
	return c.first(func(e api.Entry) bool { return ikey.Compare(e.Key, k) >= 0 })
}

func (c *chapterList) before(k api.IKey) (last api.Entry, there bool) {
	for _, e := range c.level(0) {
		if ikey.Compare(e.Key, k) < 0 {
			last, there = e, true
		}
	}
	return last, there
}

func (c *chapterList) bytes() int {
	n := 0
	for i, e := range c.entries {
		n += len(e.Key.Key) + len(e.Value) + 16 + 8*c.heights[i]
	}
	return n
}

// checkWhole holds what is asked of the whole list against the chapter.
func checkWhole(t *testing.T, l *List, c *chapterList) {
	t.Helper()
	if !same(l.All(), c.level(0)) {
		t.Fatalf("All: %d entries, not the chapter's %d in order", len(l.All()), len(c.entries))
	}
	for _, i := range []int{math.MinInt, -1, 0, 1, 2, 3, 4, 5, 6, 7, 8, 9, 10, 11, 12, 13, 1 << 32, math.MaxInt} {
		if got, want := l.Level(i), c.level(i); !same(got, want) {
			t.Fatalf("Level %d: %d entries, the chapter's are %d", i, len(got), len(want))
		}
	}
	if l.Len() != len(c.entries) || l.Bytes() != c.bytes() {
		t.Fatalf("Len %d, Bytes %d, want %d, %d", l.Len(), l.Bytes(), len(c.entries), c.bytes())
	}
}

// checkAsked holds what is asked of a key against the chapter.
func checkAsked(t *testing.T, l *List, c *chapterList, k api.IKey) {
	t.Helper()
	check := func(call string, got api.Entry, ok bool, want api.Entry, there bool) {
		t.Helper()
		if ok != there || !sameEntry(got, want) || !ok && !zero(got) {
			t.Fatalf("%s of %q, %d, %d: %v, %t, want %v, %t", call, k.Key, k.Seq, k.Kind, got, ok, want, there)
		}
	}
	got, ok := l.Seek(k)
	want, there := c.seek(k)
	check("Seek", got, ok, want, there)
	got, ok = l.Before(k)
	want, there = c.before(k)
	check("Before", got, ok, want, there)
	got, ok = l.Get(k.Key, k.Seq)
	want, there = c.get(k.Key, k.Seq)
	check("Get", got, ok, want, there)
}

func insert(t *testing.T, l *List, c *chapterList, e api.Entry, height int) {
	t.Helper()
	if got, want := l.Insert(e, height), c.insert(e, height); got != want {
		t.Fatalf("Insert of %q, %d, %d, value of %d bytes: %d, want %d", e.Key.Key, e.Key.Seq, e.Key.Kind, len(e.Value), got, want)
	}
}

// probes are keys at and beside those that the tests insert, valid and invalid.
func probes() []api.IKey {
	var l []api.IKey
	for _, k := range []string{"", "\x00", "a", "a\x00", "aa", "ab", "b", "b\xff", "m", text(255), text(256), text(257), "\xff", "\xff\xff"} {
		for _, seq := range []uint64{0, 1, 2, 3, 5, 7, 8, api.MaxSeq - 1, api.MaxSeq, api.MaxSeq + 1, math.MaxUint64} {
			for _, kind := range []int{math.MinInt, -1, api.Delete, api.Put, 2, math.MaxInt} {
				l = append(l, key(k, seq, kind))
			}
		}
	}
	return l
}

func TestP901NewList(t *testing.T) {
	for _, l := range []*List{New(), {}} {
		checkWhole(t, l, &chapterList{})
		for _, k := range probes() {
			checkAsked(t, l, &chapterList{}, k)
		}
	}
	if New().Bytes() != 0 || New().Len() != 0 {
		t.Error("a new list has entries")
	}
}

func TestP901ZeroListTakesEntries(t *testing.T) {
	l, c := &List{}, &chapterList{}
	insert(t, l, c, put("b", 1, "x"), 2)
	insert(t, l, c, put("a", 1, "y"), 12)
	checkWhole(t, l, c)
}

func TestP901InsertInAllOrders(t *testing.T) {
	entries := []api.Entry{put("a", 7, "seven"), put("a", 5, "five"), del("a", 5), put("aa", api.MaxSeq, ""), del("b", 0)}
	heights := []int{1, 3, 12, 2, 1}
	for n := range 120 {
		l, c := New(), &chapterList{}
		left := []int{0, 1, 2, 3, 4}
		for of := 5; of > 0; of-- {
			at := n % of
			n /= of
			i := left[at]
			left = slices.Delete(left, at, at+1)
			insert(t, l, c, entries[i], heights[i])
			checkWhole(t, l, c)
		}
		if !same(l.All(), entries) {
			t.Fatalf("order %d: %v", n, l.All())
		}
		for _, k := range probes() {
			checkAsked(t, l, c, k)
		}
	}
}

func TestP901Heights(t *testing.T) {
	for _, x := range []struct{ height, levels int }{
		{math.MinInt, 1}, {-1 << 32, 1}, {-12, 1}, {-1, 1}, {0, 1}, {1, 1}, {2, 2}, {3, 3}, {11, 11}, {12, 12}, {13, 12}, {24, 12}, {1 << 32, 12}, {math.MaxInt, 12},
	} {
		l := New()
		if e := l.Insert(put("key", 1, "value"), x.height); e != api.OK {
			t.Fatalf("height %d: %d", x.height, e)
		}
		for i := range 14 {
			if got := len(l.Level(i)); got != 0 != (i < x.levels) || got > 1 {
				t.Errorf("height %d: level %d has %d entries", x.height, i, got)
			}
		}
		if want := 3 + 5 + 16 + 8*x.levels; l.Bytes() != want {
			t.Errorf("height %d: Bytes %d, want %d", x.height, l.Bytes(), want)
		}
	}
}

func TestP901InsertInvalid(t *testing.T) {
	withValue := del("k", 1)
	withValue.Value = []byte{0}
	bad := []api.Entry{
		{}, put("", 1, ""), put("", 1, "v"), del("", 1), put(text(257), 1, ""), del(text(257), 1), put(text(5000), 1, ""),
		put("k", api.MaxSeq+1, ""), put("k", math.MaxUint64, ""), del("k", api.MaxSeq+1), del("k", 1<<63),
		put("k", 1, text(4097)), put("k", 1, text(10000)), withValue,
		{Key: key("k", 1, api.Delete), Value: []byte(text(4096))}, {Key: key("k", 1, api.Delete), Value: []byte(text(4097))},
	}
	for _, kind := range []int{math.MinInt, -1, 2, 3, 255, 256, 257, 1 << 32, 1<<32 + 1, math.MaxInt} {
		bad = append(bad, api.Entry{Key: key("k", 1, kind)}, api.Entry{Key: key("k", 1, kind), Value: []byte("v")})
	}
	l, c := New(), &chapterList{}
	for round := range 2 {
		for i, e := range bad {
			for _, height := range []int{math.MinInt, 0, 1, 12, math.MaxInt} {
				if got := l.Insert(e, height); got != api.ErrArg {
					t.Errorf("entry %d: %d", i, got)
				}
			}
		}
		checkWhole(t, l, c)
		for _, k := range probes() {
			checkAsked(t, l, c, k)
		}
		if round == 0 {
			insert(t, l, c, put("k", 1, ""), 1)
			insert(t, l, c, del("k", 1), 2)
		}
	}
}

func TestP901InsertAtLimits(t *testing.T) {
	l, c := New(), &chapterList{}
	for i, e := range []api.Entry{
		put("k", 1, ""), put("k", 0, "v"), put("k", api.MaxSeq, text(4096)), put("k", 2, text(4095)), del("k", 2), del("k", 0), del("k", api.MaxSeq),
		put(text(256), 1, text(4096)), del(text(256), 1), put(text(255), 1, ""), {Key: key("m", 1, api.Delete), Value: []byte{}}, {Key: key("m", 1, api.Put)},
	} {
		if got := l.Insert(e, i+1); got != api.OK {
			t.Errorf("entry %d: %d", i, got)
		}
		c.insert(e, i+1)
		checkWhole(t, l, c)
	}
	for _, k := range probes() {
		checkAsked(t, l, c, k)
	}
}

func TestP901InsertTwice(t *testing.T) {
	l, c := New(), &chapterList{}
	entries := []api.Entry{put("a", 5, "v"), del("a", 5), put("a", 4, "w"), del("b", 5), put("c", 5, "")}
	for i, e := range entries {
		insert(t, l, c, e, 2*i)
	}
	for _, e := range entries {
		again := []api.Entry{e}
		if e.Key.Kind == api.Put {
			again = append(again, put(string(e.Key.Key), e.Key.Seq, "other"), put(string(e.Key.Key), e.Key.Seq, text(4096)))
		}
		for _, x := range again {
			for _, height := range []int{-1, 1, 5, 12} {
				if got := l.Insert(x, height); got != api.ErrTwice {
					t.Errorf("%q, %d: %d", x.Key.Key, x.Key.Seq, got)
				}
			}
		}
		// An invalid entry is an invalid one first, even with a key that is there.
		invalid := e
		invalid.Value = []byte(text(4097))
		if got := l.Insert(invalid, 1); got != api.ErrArg {
			t.Errorf("%q, %d, with too long a value: %d", e.Key.Key, e.Key.Seq, got)
		}
	}
	invalid := del("a", 5)
	invalid.Value = []byte("v")
	if got := l.Insert(invalid, 1); got != api.ErrArg {
		t.Errorf("Delete with a value: %d", got)
	}
	checkWhole(t, l, c)
	for _, k := range probes() {
		checkAsked(t, l, c, k)
	}
}

func TestP901Get(t *testing.T) {
	l := New()
	for i, e := range []api.Entry{put("a", 3, "three"), put("a", 7, "seven"), del("a", 5), put("a", 5, "five"), put("aa", 1, "other"), del("c", 4)} {
		l.Insert(e, i)
	}
	for _, x := range []struct {
		k     string
		seq   uint64
		there bool
		want  api.Entry
	}{
		{"a", 2, false, api.Entry{}},
		{"a", 3, true, put("a", 3, "three")},
		{"a", 4, true, put("a", 3, "three")},
		{"a", 5, true, put("a", 5, "five")},
		{"a", 6, true, put("a", 5, "five")},
		{"a", 7, true, put("a", 7, "seven")},
		{"a", math.MaxUint64, true, put("a", 7, "seven")},
		{"aa", 0, false, api.Entry{}},
		{"aa", 9, true, put("aa", 1, "other")},
		{"b", 9, false, api.Entry{}},
		{"c", 4, true, del("c", 4)},
		{"c", 3, false, api.Entry{}},
		{"", 9, false, api.Entry{}},
		{"d", 9, false, api.Entry{}},
	} {
		got, ok := l.Get([]byte(x.k), x.seq)
		if ok != x.there || !sameEntry(got, x.want) {
			t.Errorf("Get of %q, %d: %v, %t", x.k, x.seq, got, ok)
		}
	}
	if got, ok := l.Get(nil, 9); ok || !zero(got) {
		t.Errorf("Get of nil: %v, %t", got, ok)
	}
}

// randomEntry is one of few keys, so that many compare equal, and sometimes invalid.
func randomEntry(r *rand.Rand) api.Entry {
	keys := []string{"", "\x00", "a", "a\x00", "aa", "ab", "b", "b\xff", "m", text(255), text(256), text(257), "\xff"}
	seqs := []uint64{0, 1, 2, 3, 5, 7, api.MaxSeq, api.MaxSeq + 1}
	e := api.Entry{Key: key(keys[r.Intn(len(keys))], seqs[r.Intn(len(seqs))], r.Intn(2))}
	if r.Intn(20) == 0 {
		e.Key.Kind = 2
	}
	if e.Key.Kind != api.Delete || r.Intn(10) == 0 {
		e.Value = []byte(text(r.Intn(20)))
	}
	return e
}

func TestP901RandomLists(t *testing.T) {
	for seed := range 20 {
		r := rand.New(rand.NewSource(int64(seed)))
		l, c := New(), &chapterList{}
		for range 100 {
			insert(t, l, c, randomEntry(r), r.Intn(16)-2)
			checkWhole(t, l, c)
		}
		for _, k := range probes() {
			checkAsked(t, l, c, k)
		}
	}
}

func TestP901ManyEntries(t *testing.T) {
	r := rand.New(rand.NewSource(9))
	l, c := New(), &chapterList{}
	for i := range 2000 {
		height := 1
		for r.Intn(4) == 0 {
			height++
		}
		e := put(string(rune('a'+i*7%26))+string(rune('a'+i*11%25)), uint64(i), text(i%5))
		if got := l.Insert(e, height); got != api.OK {
			t.Fatalf("entry %d: %d", i, got)
		}
		c.entries = append(c.entries, e)
		c.heights = append(c.heights, min(height, 12))
	}
	checkWhole(t, l, c)
	all := c.level(0)
	for i, e := range all {
		got, ok := l.Seek(e.Key)
		last, there := l.Before(e.Key)
		if !ok || !sameEntry(got, e) || there != (i > 0) || there && !sameEntry(last, all[i-1]) {
			t.Fatalf("entry %d", i)
		}
		if got, ok = l.Get(e.Key.Key, e.Key.Seq); !ok || !sameEntry(got, e) {
			t.Fatalf("Get of entry %d", i)
		}
	}
}

func TestP902ListsAreIndependent(t *testing.T) {
	r := rand.New(rand.NewSource(902))
	lists, chapters := []*List{New(), New(), {}}, []*chapterList{{}, {}, {}}
	for range 200 {
		i := r.Intn(len(lists))
		insert(t, lists[i], chapters[i], randomEntry(r), r.Intn(13))
		for n, l := range lists {
			if !same(l.All(), chapters[n].level(0)) || l.Bytes() != chapters[n].bytes() || l.Len() != len(chapters[n].entries) {
				t.Fatalf("list %d changed with list %d", n, i)
			}
		}
	}
}

// roomy is b with spare capacity, all of it marked.
func roomy(b []byte) []byte {
	room := bytes.Repeat([]byte{0xee}, len(b)+9)
	copy(room, b)
	return room[:len(b)]
}

func TestP902ArgumentsStayAndAreNotKept(t *testing.T) {
	l, c := New(), &chapterList{}
	var given [][]byte
	for i, e := range []api.Entry{put("m", 5, "value"), put("a", 5, ""), del("m", 7), put("m", 5, "other"), put("", 5, "bad")} {
		e.Key.Key, e.Value = roomy(e.Key.Key), roomy(e.Value)
		given = append(given, e.Key.Key, e.Value)
		before := copied(e)
		insert(t, l, c, e, i)
		if !sameEntry(e, before) {
			t.Errorf("Insert changed entry %d", i)
		}
	}
	asked := roomy([]byte("m"))
	given = append(given, asked)
	l.Get(asked, 6)
	l.Seek(api.IKey{Key: asked, Seq: 6, Kind: api.Put})
	l.Before(api.IKey{Key: asked, Seq: 6, Kind: api.Put})
	if string(asked) != "m" {
		t.Errorf("the key that was asked for is %q", asked)
	}
	for i, b := range given {
		for _, x := range b[len(b):cap(b)] {
			if x != 0xee {
				t.Fatalf("argument %d: its spare capacity changed", i)
			}
		}
		spoil(b)
	}
	checkWhole(t, l, c)
}

// spoil overwrites all of b, with its spare capacity.
func spoil(b []byte) {
	b = b[:cap(b)]
	for i := range b {
		b[i] = 'X'
	}
}

func TestP902ResultsAreSeparate(t *testing.T) {
	l, c := New(), &chapterList{}
	for i, e := range []api.Entry{put("m", 5, "value"), put("a", 5, "v"), del("m", 7), put("m", 4, "other")} {
		insert(t, l, c, e, 3*i)
	}
	results := func() [][]api.Entry {
		get, _ := l.Get([]byte("m"), 5)
		seek, _ := l.Seek(key("m", 5, api.Put))
		before, _ := l.Before(key("m", 4, api.Put))
		return [][]api.Entry{l.All(), l.Level(0), l.Level(1), {get}, {seek}, {before}}
	}
	first, second := results(), results()
	var want [][]api.Entry
	for _, entries := range second {
		var w []api.Entry
		for _, e := range entries {
			w = append(w, copied(e))
		}
		want = append(want, w)
	}
	for _, entries := range first {
		for i := range entries {
			k, v := entries[i].Key.Key, entries[i].Value
			spoil(k)
			if len(v) > 0 && v[0] == 'X' {
				t.Error("a value shares bytes with its key")
			}
			spoil(v)
			entries[i] = api.Entry{}
		}
	}
	for i, entries := range second {
		if !same(entries, want[i]) {
			t.Errorf("result %d shares bytes with another one", i)
		}
	}
	if !slices.EqualFunc(results(), want, same) {
		t.Error("results share bytes with the list")
	}
	checkWhole(t, l, c)
}

// Within one result, what is appended to one slice must not run into another.
func TestP902SlicesOfOneResultAreSeparate(t *testing.T) {
	l, c := New(), &chapterList{}
	for i := range 10 {
		insert(t, l, c, put(string(rune('a'+i)), 1, text(i)), i)
	}
	all := l.All()
	for _, e := range all {
		_ = append(e.Key.Key, bytes.Repeat([]byte("Y"), 20)...)
		_ = append(e.Value, bytes.Repeat([]byte("Y"), 20)...)
		spoil(e.Key.Key[len(e.Key.Key):])
		spoil(e.Value[len(e.Value):])
	}
	if !same(all, c.level(0)) {
		t.Error("slices of one result share memory")
	}
	checkWhole(t, l, c)
}

func TestP902AskingChangesNothing(t *testing.T) {
	l, c := New(), &chapterList{}
	r := rand.New(rand.NewSource(903))
	for range 60 {
		insert(t, l, c, randomEntry(r), r.Intn(13))
	}
	for range 2 {
		checkWhole(t, l, c)
		for _, k := range probes() {
			checkAsked(t, l, c, k)
		}
	}
}
