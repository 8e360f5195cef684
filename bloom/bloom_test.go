package bloom

import (
	"bytes"
	"encoding/binary"
	"encoding/hex"
	"hash/fnv"
	"math"
	"math/rand"
	"slices"
	"strings"
	"testing"
)

// texts are keys of several lengths and kinds.
func texts() [][]byte {
	l := [][]byte{{}, []byte("a"), []byte("foobar"), []byte("user/0001"), zeroHashed()}
	for c := range 256 {
		if c != 'a' {
			l = append(l, []byte{byte(c)})
		}
		l = append(l, []byte{0, byte(c)}, []byte{byte(c), 255, byte(c)})
	}
	for n := 4; n < 300; n++ {
		l = append(l, bytes.Repeat([]byte{0}, n), bytes.Repeat([]byte{255}, n))
	}
	return l
}

// zeroHashed is a key whose hash is 0, so that all its bits are bit 0.
func zeroHashed() []byte { return []byte{0xcc, 0x24, 0x31, 0xc4} }

// numbered are n different keys.
func numbered(n int) [][]byte {
	var l [][]byte
	for i := range n {
		l = append(l, binary.BigEndian.AppendUint32([]byte("key"), uint32(i)))
	}
	return l
}

func hashOf(key []byte) uint32 {
	h := fnv.New32a()
	h.Write(key)
	return h.Sum32()
}

// chapterPlaces are the bits of a key with the given hash, by arithmetic alone.
func chapterPlaces(hash uint32, k, m int) []int {
	h := int(hash)
	d := h/(1<<17) + h%(1<<17)*(1<<15)
	var l []int
	for range k {
		l = append(l, h%m)
		h = (h + d) % (1 << 32)
	}
	return l
}

// chapterK and chapterM are the numbers of the chapter's words.
func chapterK(bits int) int {
	if bits < 1 {
		bits = 1
	} else if bits > 40 {
		bits = 40
	}
	k := (bits*69 - bits*69%100) / 100
	if k < 1 {
		return 1
	} else if k > 30 {
		return 30
	}
	return k
}

func chapterM(keys, bits int) int {
	if bits < 1 {
		bits = 1
	} else if bits > 40 {
		bits = 40
	}
	m := keys * bits
	if m < 64 {
		m = 64
	}
	for m%8 != 0 {
		m++
	}
	return m
}

// laid is a filter of m bits, of which those at places are set, with the last byte k.
func laid(m, k int, places ...int) []byte {
	f := make([]byte, m/8, m/8+1)
	for _, i := range places {
		f[i/8] |= []byte{1, 2, 4, 8, 16, 32, 64, 128}[i%8]
	}
	return append(f, byte(k))
}

func chapterBuild(keys [][]byte, bits int) []byte {
	k, m := chapterK(bits), chapterM(len(keys), bits)
	var places []int
	for _, key := range keys {
		places = append(places, chapterPlaces(hashOf(key), k, m)...)
	}
	return laid(m, k, places...)
}

func chapterMay(f, key []byte) bool {
	if len(f) < 2 {
		return true
	}
	k := int(f[len(f)-1])
	if k > 30 {
		return true
	}
	for _, i := range chapterPlaces(hashOf(key), k, 8*(len(f)-1)) {
		if int(f[i/8])/[]int{1, 2, 4, 8, 16, 32, 64, 128}[i%8]%2 == 0 {
			return false
		}
	}
	return true
}

func wantBuild(t *testing.T, keys [][]byte, bits int) []byte {
	t.Helper()
	got, want := Build(keys, bits), chapterBuild(keys, bits)
	if !bytes.Equal(got, want) {
		t.Fatalf("Build of %d keys with %d bits = %x, want %x", len(keys), bits, got, want)
	}
	return got
}

func wantMay(t *testing.T, f, key []byte, want bool) {
	t.Helper()
	if got := May(f, key); got != want {
		t.Fatalf("May(%x, %x) = %v", f, key, got)
	}
}

func TestP1201HashExamples(t *testing.T) {
	for s, want := range map[string]uint32{
		"": 2166136261, "\x00": 0x050c5d1f, "a": 0xe40c292c, "b": 0xe70c2de5, "foobar": 0xbf9cf968, "\xcc\x24\x31\xc4": 0,
	} {
		if got := Hash([]byte(s)); got != want {
			t.Errorf("Hash(%q) = %#x, want %#x", s, got, want)
		}
	}
	if got := Hash(nil); got != 2166136261 {
		t.Errorf("Hash(nil) = %d", got)
	}
}

func TestP1201HashAgreesWithTheLibrary(t *testing.T) {
	keys := append(texts(), numbered(1000)...)
	keys = append(keys, bytes.Repeat([]byte("many bytes"), 10000))
	for _, key := range keys {
		if got, want := Hash(key), hashOf(key); got != want {
			t.Errorf("Hash(%x) = %#x, want %#x", key, got, want)
		}
	}
}

func TestP1201HashFollowsTheChapter(t *testing.T) {
	for _, key := range texts() {
		h := uint64(2166136261)
		for _, c := range key {
			h = h - h%256 + (h%256 ^ uint64(c))
			h = h * 16777619 % (1 << 32)
		}
		if got := Hash(key); uint64(got) != h {
			t.Errorf("Hash(%x) = %#x, want %#x", key, got, h)
		}
	}
}

func TestP1201HashDoesNotReadBeyondTheLength(t *testing.T) {
	key := []byte("foobar and more")
	if got := Hash(key[:6]); got != 0xbf9cf968 {
		t.Errorf("Hash = %#x", got)
	}
	if got := Hash(key[:0]); got != 2166136261 {
		t.Errorf("Hash = %#x", got)
	}
}

func TestP1201BuildExamples(t *testing.T) {
	for _, x := range []struct {
		keys string
		bits int
		want string
	}{
		{"", 10, "000000000000000006"},
		// The hash is e40c292c, and rotated 14967206: the bits are those of 2c, 32 and
		// 38, modulo 64.
		{"a", 1, "000000000010000001"},
		{"a", 3, "000000000010040002"},
		{"a", 5, "000000000010040103"},
	} {
		var keys [][]byte
		if x.keys != "" {
			keys = append(keys, []byte(x.keys))
		}
		if got := hex.EncodeToString(Build(keys, x.bits)); got != x.want {
			t.Errorf("Build of %q with %d bits = %s, want %s", x.keys, x.bits, got, x.want)
		}
	}
}

func TestP1201BuildOfNoKeys(t *testing.T) {
	for _, keys := range [][][]byte{nil, {}} {
		for bits := -1; bits < 50; bits++ {
			f := wantBuild(t, keys, bits)
			if len(f) != 9 || !bytes.Equal(f[:8], make([]byte, 8)) {
				t.Errorf("Build of no keys with %d bits = %x", bits, f)
			}
		}
	}
}

func TestP1201BuildFollowsTheChapter(t *testing.T) {
	keys := texts()
	for n := range 140 {
		for bits := -2; bits < 45; bits++ {
			wantBuild(t, keys[:n], bits)
		}
	}
	for _, n := range []int{200, 255, 256, 257, 819, 820, len(keys)} {
		for _, bits := range []int{1, 7, 10, 39, 40} {
			wantBuild(t, keys[:n], bits)
		}
	}
}

func TestP1201BuildOfEachKeyAlone(t *testing.T) {
	for _, key := range texts() {
		for _, bits := range []int{1, 2, 10, 40} {
			wantBuild(t, [][]byte{key}, bits)
		}
	}
}

func TestP1201BuildOfManyKeys(t *testing.T) {
	for _, n := range []int{6553, 6554, 10000, 100000} {
		for _, bits := range []int{1, 10, 40} {
			wantBuild(t, numbered(n), bits)
		}
	}
}

func TestP1201BitsAreLimited(t *testing.T) {
	keys := numbered(60)
	for _, x := range []struct{ given, used int }{
		{math.MinInt, 1}, {math.MinInt + 1, 1}, {-1 << 32, 1}, {-41, 1}, {-40, 1}, {-1, 1}, {0, 1}, {1, 1}, {2, 2}, {39, 39},
		{40, 40}, {41, 40}, {44, 40}, {45, 40}, {100, 40}, {256, 40}, {257, 40}, {1 << 32, 40}, {1<<32 + 1, 40}, {math.MaxInt - 1, 40}, {math.MaxInt, 40},
	} {
		for _, n := range []int{0, 1, 2, 60} {
			if got, want := wantBuild(t, keys[:n], x.given), Build(keys[:n], x.used); !bytes.Equal(got, want) {
				t.Errorf("Build with %d bits = %x, with %d %x", x.given, got, x.used, want)
			}
		}
		if got := len(Build(keys[:56], x.given)); got != 56*x.used/8+max(0, 64-56*x.used)/8+1 {
			t.Errorf("%d bytes with %d bits", got, x.given)
		}
	}
}

func TestP1201LastByte(t *testing.T) {
	want := []byte{1, 1, 1, 2, 2, 3, 4, 4, 5, 6, 6, 7, 8, 8, 9, 10, 11, 11, 12, 13, 13, 14, 15, 15, 16, 17, 17, 18, 19, 20, 20, 21, 22, 22, 23, 24, 24, 25, 26, 26, 27, 27, 27}
	for bits, k := range want {
		for _, n := range []int{0, 1, 30} {
			f := Build(numbered(n), bits)
			if got := f[len(f)-1]; got != k {
				t.Errorf("%d bits: k = %d, want %d", bits, got, k)
			}
		}
	}
}

func TestP1201Length(t *testing.T) {
	for _, x := range []struct{ keys, bits, want int }{
		{0, 40, 9}, {1, 1, 9}, {1, 40, 9}, {63, 1, 9}, {64, 1, 9}, {65, 1, 10}, {72, 1, 10}, {73, 1, 11},
		{2, 32, 9}, {2, 33, 10}, {2, 36, 10}, {2, 37, 11}, {6, 10, 9}, {7, 10, 10}, {8, 10, 11}, {9, 10, 13}, {100, 40, 501},
	} {
		if got := len(Build(numbered(x.keys), x.bits)); got != x.want {
			t.Errorf("%d keys with %d bits: %d bytes, want %d", x.keys, x.bits, got, x.want)
		}
	}
}

// Each element of keys counts, whether or not it is there a second time.
func TestP1201EqualKeys(t *testing.T) {
	same := slices.Repeat([][]byte{[]byte("a")}, 30)
	if got := wantBuild(t, same, 10); len(got) != 39 {
		t.Errorf("%d bytes", len(got))
	}
	wantBuild(t, append(same, numbered(30)...), 10)
	wantBuild(t, append(numbered(30), numbered(30)...), 3)
	wantBuild(t, make([][]byte, 100), 10)
	if !bytes.Equal(Build([][]byte{nil}, 10), Build([][]byte{{}}, 10)) {
		t.Error("a nil key is not an empty one")
	}
}

func TestP1201OrderOfKeysDoesNotMatter(t *testing.T) {
	keys := numbered(50)
	want := Build(keys, 10)
	slices.Reverse(keys)
	if got := Build(keys, 10); !bytes.Equal(got, want) {
		t.Errorf("reversed: %x, want %x", got, want)
	}
}

func TestP1201MayOfWhatIsNoFilter(t *testing.T) {
	for _, key := range texts() {
		wantMay(t, nil, key, true)
		wantMay(t, []byte{}, key, true)
		for c := range 256 {
			wantMay(t, []byte{byte(c)}, key, true)
		}
		for k := 31; k < 256; k++ {
			for _, n := range []int{1, 2, 8, 9} {
				wantMay(t, append(make([]byte, n), byte(k)), key, true)
			}
		}
	}
	// The bytes behind the length are no part of it.
	wantMay(t, []byte{0, 1}[:1], []byte("a"), true)
	wantMay(t, make([]byte, 9)[:0], []byte("a"), true)
}

func TestP1201MayWithoutProbes(t *testing.T) {
	for n := 1; n < 20; n++ {
		wantMay(t, make([]byte, n+1), []byte("a"), true)
		wantMay(t, append(bytes.Repeat([]byte{255}, n), 0), nil, true)
	}
}

func TestP1201MayNeedsEachBit(t *testing.T) {
	for _, key := range append(numbered(20), nil, zeroHashed(), []byte("a")) {
		for size := 1; size < 40; size++ {
			m := 8 * size
			for k := 1; k <= 30; k++ {
				places := chapterPlaces(hashOf(key), k, m)
				only := laid(m, k, places...)
				wantMay(t, only, key, true)
				wantMay(t, laid(m, k), key, false)
				wantMay(t, append(bytes.Repeat([]byte{255}, size), byte(k)), key, true)
				for _, i := range places {
					less := bytes.Clone(only)
					less[i/8] &^= 1 << (i % 8)
					wantMay(t, less, key, false)
					full := append(bytes.Repeat([]byte{255}, size), byte(k))
					full[i/8] &^= 1 << (i % 8)
					wantMay(t, full, key, false)
				}
			}
		}
	}
}

func TestP1201MayOfOtherBits(t *testing.T) {
	key := []byte("user/0001")
	for size := 1; size < 30; size++ {
		for k := 1; k <= 30; k++ {
			places := chapterPlaces(hashOf(key), k, 8*size)
			f := append(bytes.Repeat([]byte{255}, size), byte(k))
			for i := range 8 * size {
				if !slices.Contains(places, i) {
					f[i/8] &^= 1 << (i % 8)
					wantMay(t, f, key, true)
				}
			}
			if !bytes.Equal(f, laid(8*size, k, places...)) {
				t.Fatalf("%x is left", f)
			}
		}
	}
}

func TestP1201MayOfKeysNotBuilt(t *testing.T) {
	keys := texts()
	for _, n := range []int{0, 1, 5, 50, 400} {
		for _, bits := range []int{1, 2, 10, 40} {
			f, no := Build(keys[:n], bits), 0
			for _, key := range keys {
				want := chapterMay(f, key)
				wantMay(t, f, key, want)
				if !want {
					no++
				}
			}
			if no == 0 {
				t.Errorf("the filter of %d keys with %d bits shows nothing", n, bits)
			}
		}
	}
}

func TestP1201MayOfRandomBytes(t *testing.T) {
	r := rand.New(rand.NewSource(12))
	yes, no := 0, 0
	for range 20000 {
		f := make([]byte, r.Intn(40))
		for i := range f {
			// Many bits are set, so that both answers are frequent.
			f[i] = byte(r.Intn(256)) | byte(r.Intn(256)) | byte(r.Intn(256))
		}
		if len(f) > 0 {
			f[len(f)-1] = byte(r.Intn(34))
		}
		key := make([]byte, r.Intn(12))
		r.Read(key)
		want := chapterMay(f, key)
		wantMay(t, f, key, want)
		if want {
			yes++
		} else {
			no++
		}
	}
	if yes < 1000 || no < 1000 {
		t.Errorf("%d yes, %d no", yes, no)
	}
}

// From 2^29 bytes on, the number of bits is beyond 32 bits.
func TestP1201MayOfHugeFilters(t *testing.T) {
	whole := make([]byte, 1<<29+9)
	for _, size := range []int{1<<29 - 1, 1 << 29, 1<<29 + 1, 1<<29 + 8} {
		f := whole[:size+1]
		for _, key := range append(numbered(5), nil, zeroHashed()) {
			f[size] = 30
			places := chapterPlaces(hashOf(key), 30, 8*size)
			if May(f, key) {
				t.Errorf("%d bytes: May(%x) without any bit", size, key)
			}
			for _, i := range places {
				f[i/8] |= 1 << (i % 8)
			}
			if !May(f, key) {
				t.Errorf("%d bytes: May(%x) with all bits", size, key)
			}
			for _, i := range places {
				f[i/8] ^= 1 << (i % 8)
				if May(f, key) {
					t.Errorf("%d bytes: May(%x) without bit %d", size, key, i)
				}
				f[i/8] ^= 1 << (i % 8)
			}
			for _, i := range places {
				f[i/8] = 0
			}
			f[size] = 0
		}
	}
}

func TestP1202MayOfEachKeyBuilt(t *testing.T) {
	all := append(texts(), numbered(500)...)
	for _, n := range []int{1, 2, 3, 7, 60, 300, len(all)} {
		for bits := -1; bits < 43; bits++ {
			f := Build(all[:n], bits)
			for _, key := range all[:n] {
				wantMay(t, f, key, true)
			}
		}
	}
}

func TestP1202MayOfEachRandomKeyBuilt(t *testing.T) {
	r := rand.New(rand.NewSource(1202))
	for range 300 {
		keys := make([][]byte, r.Intn(100))
		for i := range keys {
			keys[i] = make([]byte, r.Intn(1+r.Intn(300)))
			r.Read(keys[i])
		}
		f := Build(keys, r.Intn(50)-3)
		for _, key := range keys {
			wantMay(t, f, key, true)
		}
	}
}

func TestP1202ArgumentsStay(t *testing.T) {
	whole := []byte(strings.Repeat("some bytes ", 30))
	before := bytes.Clone(whole)
	keys := [][]byte{whole[:5], whole[3:50], whole[:0], nil, whole[60:61], whole[100:], whole[7:9]}
	given := slices.Clone(keys)
	Build(keys[:5], 10)
	Hash(whole[:9])
	f := whole[:12]
	f[11] = 5
	before[11] = 5
	May(f, whole[20:30])
	if !bytes.Equal(whole, before) {
		t.Errorf("the bytes changed to %q", whole)
	}
	for i := range keys {
		if len(keys[i]) != len(given[i]) || cap(keys[i]) != cap(given[i]) || (keys[i] == nil) != (given[i] == nil) {
			t.Errorf("key %d changed", i)
		}
	}
}

func TestP1202ArgumentsAreNotKept(t *testing.T) {
	keys := numbered(20)
	f := Build(keys, 10)
	want := bytes.Clone(f)
	for _, key := range keys {
		clear(key)
	}
	clear(keys)
	if !bytes.Equal(f, want) {
		t.Error("a filter changed with its keys")
	}
	for _, key := range numbered(20) {
		wantMay(t, f, key, true)
	}
	clear(f[:len(f)-1])
	wantMay(t, f, numbered(1)[0], false)
}

func TestP1202ResultsAreNewEachTime(t *testing.T) {
	for _, keys := range [][][]byte{nil, numbered(1), numbered(20)} {
		first, second := Build(keys, 10), Build(keys, 10)
		want := bytes.Clone(first)
		clear(first[:cap(first)])
		first = append(first[:0], 1, 2, 3)
		if !bytes.Equal(second, want) || !bytes.Equal(Build(keys, 10), want) {
			t.Errorf("a change of one filter of %d keys changes another", len(keys))
		}
	}
}

func TestP1202ResultsRepeat(t *testing.T) {
	keys := numbered(40)
	f, other := Build(keys, 7), []byte("another")
	may, hash := May(f, other), Hash(other)
	for bits := range 45 {
		Build(keys[:bits%40], bits)
		May(Build(keys, bits), other)
		if !bytes.Equal(Build(keys, 7), f) || May(f, other) != may || Hash(other) != hash {
			t.Fatal("a result does not repeat")
		}
	}
}
