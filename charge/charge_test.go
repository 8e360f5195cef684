package charge

import (
	"math"
	"math/big"
	"slices"
	"testing"

	"buttery/api"
)

var negativeZero = math.Copysign(0, -1)

// invalidParts are the values that no part of a charge may have.
func invalidParts() []float64 {
	return []float64{
		math.NaN(), math.Inf(1), math.Inf(-1),
		-1, -api.MaxPart, -math.MaxFloat64, -math.SmallestNonzeroFloat64, -0.5,
		0.25, 1.5, math.SmallestNonzeroFloat64, math.Nextafter(1, 0), math.Nextafter(1, 2),
		math.Nextafter(api.MaxPart, 0), math.Nextafter(api.MaxPart, math.Inf(1)),
		api.MaxPart + 1, 2 * api.MaxPart, 1 << 62, 1 << 63, 1 << 64, math.MaxFloat64,
	}
}

// invalidCharges has every invalid part in either place and in both.
func invalidCharges() []complex128 {
	var l []complex128
	for _, x := range invalidParts() {
		l = append(l, complex(x, 0), complex(x, 3), complex(0, x), complex(5, x), complex(x, x))
	}
	return l
}

func validParts() []int {
	return []int{0, 1, 2, 3, 1000, 1<<20 - 1, 1 << 20, 1<<39 - 1, 1 << 39, api.MaxPart - 1, api.MaxPart}
}

func invalidNumbers() []int {
	return []int{math.MinInt, -api.MaxPart, -1, api.MaxPart + 1, 1 << 53, 1<<62 + 1, math.MaxInt}
}

func mustOf(t *testing.T, bytes, handles int) complex128 {
	t.Helper()
	c, ok := Of(bytes, handles)
	if !ok {
		t.Fatalf("Of(%d, %d) is refused", bytes, handles)
	}
	return c
}

// same also tells 0 from -0 and holds no NaN equal to anything.
func same(a, b complex128) bool {
	return a == b &&
		math.Signbit(real(a)) == math.Signbit(real(b)) &&
		math.Signbit(imag(a)) == math.Signbit(imag(b))
}

func TestP101OfAndPartsAgree(t *testing.T) {
	for _, bytes := range validParts() {
		for _, handles := range validParts() {
			c, ok := Of(bytes, handles)
			if want := complex(float64(bytes), float64(handles)); !ok || !same(c, want) {
				t.Errorf("Of(%d, %d) = %v, %v", bytes, handles, c, ok)
			}
			b, h, ok := Parts(c)
			if b != bytes || h != handles || !ok {
				t.Errorf("Parts(%v) = %d, %d, %v", c, b, h, ok)
			}
		}
	}
}

func TestP101OfRefusesNumbersOutOfRange(t *testing.T) {
	refused := func(bytes, handles int) {
		if c, ok := Of(bytes, handles); ok || !same(c, 0) {
			t.Errorf("Of(%d, %d) = %v, %v", bytes, handles, c, ok)
		}
	}
	for _, bad := range invalidNumbers() {
		for _, good := range validParts() {
			refused(bad, good)
			refused(good, bad)
		}
		refused(bad, bad)
	}
}

func TestP101PartsRefusesInvalid(t *testing.T) {
	for _, c := range invalidCharges() {
		if b, h, ok := Parts(c); b != 0 || h != 0 || ok {
			t.Errorf("Parts(%v) = %d, %d, %v", c, b, h, ok)
		}
	}
}

func TestP101NegativeZeroCountsAsZero(t *testing.T) {
	none := complex(negativeZero, negativeZero)
	if b, h, ok := Parts(none); b != 0 || h != 0 || !ok {
		t.Errorf("Parts = %d, %d, %v", b, h, ok)
	}
	if b, h, ok := Parts(complex(negativeZero, 4)); b != 0 || h != 4 || !ok {
		t.Errorf("Parts = %d, %d, %v", b, h, ok)
	}
	if b, h, ok := Parts(complex(4, negativeZero)); b != 4 || h != 0 || !ok {
		t.Errorf("Parts = %d, %d, %v", b, h, ok)
	}
	if !Fits(none, 0) || !Fits(0, none) || !Fits(none, none) || Fits(1, none) || Fits(1i, none) {
		t.Error("Fits")
	}
	for name, got := range map[string]complex128{
		"Sum of one":         Sum([]complex128{none}),
		"Sum of two":         Sum([]complex128{none, none}),
		"Less of 0":          Less(none, 0),
		"Less of -0":         Less(0, none),
		"Less of both":       Less(none, none),
		"Less of an invalid": Less(none, -1),
		"Times 0":            Times(none, 0),
		"Times 1":            Times(none, 1),
		"Times -1":           Times(none, -1),
		"Times MaxInt":       Times(none, math.MaxInt),
	} {
		if !same(got, 0) {
			t.Errorf("%s = %v", name, got)
		}
	}
}

func TestP101SumExamples(t *testing.T) {
	const most = api.MaxPart
	for i, x := range []struct {
		l    []complex128
		want complex128
	}{
		{nil, 0},
		{[]complex128{}, 0},
		{[]complex128{7 + 2i}, 7 + 2i},
		{[]complex128{3 + 1i, 4}, 7 + 1i},
		{[]complex128{1, 2i, 4 + 8i, 16}, 21 + 10i},
		{[]complex128{most - 1, 1}, most},
		{[]complex128{most, 1 + 1i}, most + 1i},
		{[]complex128{most + 5i, most + 6i, 1}, most + 11i},
		{[]complex128{complex(1, most), complex(2, 1)}, complex(3, most)},
		{[]complex128{complex(most, most), complex(most, most)}, complex(most, most)},
	} {
		if got := Sum(x.l); !same(got, x.want) {
			t.Errorf("%d: Sum(%v) = %v, want %v", i, x.l, got, x.want)
		}
	}
}

func TestP101SumSkipsInvalid(t *testing.T) {
	for _, bad := range invalidCharges() {
		if got := Sum([]complex128{bad}); !same(got, 0) {
			t.Errorf("Sum of %v = %v", bad, got)
		}
		if got := Sum([]complex128{bad, 3 + 1i, bad, 4, bad}); !same(got, 7+1i) {
			t.Errorf("Sum with %v = %v", bad, got)
		}
	}
}

func TestP101SumOfManyStaysExact(t *testing.T) {
	// Without a limit on the way, 2^14 parts of MaxPart leave the exact range.
	l := slices.Repeat([]complex128{complex(api.MaxPart, 1)}, 1<<14)
	if got := Sum(l); !same(got, complex(api.MaxPart, 1<<14)) {
		t.Errorf("Sum = %v", got)
	}
}

func TestP101LessExamples(t *testing.T) {
	for i, x := range []struct{ a, b, want complex128 }{
		{7 + 3i, 2 + 1i, 5 + 2i},
		{7 + 3i, 0, 7 + 3i},
		{7 + 3i, 7 + 3i, 0},
		{7 + 3i, 9 + 1i, 2i},
		{7 + 3i, 1 + 9i, 6},
		{7 + 3i, 9 + 9i, 0},
		{0, complex(api.MaxPart, api.MaxPart), 0},
		{complex(api.MaxPart, api.MaxPart), 1, complex(api.MaxPart-1, api.MaxPart)},
	} {
		if got := Less(x.a, x.b); !same(got, x.want) {
			t.Errorf("%d: Less(%v, %v) = %v, want %v", i, x.a, x.b, got, x.want)
		}
	}
}

func TestP101LessCountsInvalidAsZero(t *testing.T) {
	for _, bad := range invalidCharges() {
		if got := Less(bad, 1+1i); !same(got, 0) {
			t.Errorf("Less(%v, 1+1i) = %v", bad, got)
		}
		if got := Less(7+3i, bad); !same(got, 7+3i) {
			t.Errorf("Less(7+3i, %v) = %v", bad, got)
		}
		if got := Less(bad, bad); !same(got, 0) {
			t.Errorf("Less(%v, %v) = %v", bad, bad, got)
		}
	}
}

func TestP101TimesAgreesWithExactIntegers(t *testing.T) {
	numbers := append(invalidNumbers(), validParts()...)
	numbers = append(numbers, 5, 7, 10, 1<<21, 1<<40+2, 1<<61)
	for _, bytes := range validParts() {
		for _, handles := range validParts() {
			c := mustOf(t, bytes, handles)
			for _, n := range numbers {
				want := mustOf(t, exactTimes(bytes, n), exactTimes(handles, n))
				if got := Times(c, n); !same(got, want) {
					t.Errorf("Times(%v, %d) = %v, want %v", c, n, got, want)
				}
			}
		}
	}
}

func exactTimes(part, n int) int {
	product := new(big.Int).Mul(big.NewInt(int64(part)), big.NewInt(int64(max(n, 0))))
	if product.Cmp(big.NewInt(api.MaxPart)) > 0 {
		return api.MaxPart
	}
	return int(product.Int64())
}

func TestP101TimesOfInvalidIsZero(t *testing.T) {
	for _, bad := range invalidCharges() {
		for _, n := range []int{math.MinInt, -1, 0, 1, 2, 4, math.MaxInt} {
			if got := Times(bad, n); !same(got, 0) {
				t.Errorf("Times(%v, %d) = %v", bad, n, got)
			}
		}
	}
}

func TestP101SumAndLessAgreeWithExactIntegers(t *testing.T) {
	for _, a := range validParts() {
		for _, b := range validParts() {
			sum := mustOf(t, min(a+b, api.MaxPart), min(b+a, api.MaxPart))
			if got := Sum([]complex128{mustOf(t, a, b), mustOf(t, b, a)}); !same(got, sum) {
				t.Errorf("Sum of %d and %d = %v", a, b, got)
			}
			less := mustOf(t, max(a-b, 0), max(b-a, 0))
			if got := Less(mustOf(t, a, b), mustOf(t, b, a)); !same(got, less) {
				t.Errorf("Less of %d and %d = %v", a, b, got)
			}
		}
	}
}

func TestP101FitsComparesBothParts(t *testing.T) {
	parts := validParts()
	for _, b := range parts {
		for _, h := range parts {
			for _, roomB := range parts {
				for _, roomH := range parts {
					got := Fits(mustOf(t, b, h), mustOf(t, roomB, roomH))
					if want := b <= roomB && h <= roomH; got != want {
						t.Errorf("Fits(%d+%di, %d+%di) = %v", b, h, roomB, roomH, got)
					}
				}
			}
		}
	}
}

func TestP101FitsRefusesInvalid(t *testing.T) {
	most := complex(api.MaxPart, api.MaxPart)
	for _, bad := range invalidCharges() {
		if Fits(bad, most) || Fits(bad, 0) || Fits(0, bad) || Fits(1+1i, bad) || Fits(bad, bad) {
			t.Errorf("Fits takes %v", bad)
		}
	}
}

func TestP102ArgumentsStayAndResultsRepeat(t *testing.T) {
	whole := []complex128{3 + 1i, complex(math.NaN(), 2), complex(negativeZero, 2), -1, 9 + 9i, complex(api.MaxPart, 7)}
	before := slices.Clone(whole)
	l := whole[:4] // with spare capacity that holds charges
	first := Sum(l)
	if !same(first, 3+3i) {
		t.Errorf("Sum = %v", first)
	}
	for range 3 {
		Sum(whole)
		Less(first, 1)
		Times(first, 5)
		if got := Sum(l); !same(got, first) {
			t.Errorf("Sum = %v, then %v", first, got)
		}
	}
	for i := range whole {
		if !sameBits(whole[i], before[i]) {
			t.Errorf("element %d changed from %v to %v", i, before[i], whole[i])
		}
	}
	l[0] = 100
	if got := Sum(before[:4]); !same(got, first) {
		t.Errorf("Sum depends on a list it was given before: %v", got)
	}
}

func sameBits(a, b complex128) bool {
	return math.Float64bits(real(a)) == math.Float64bits(real(b)) &&
		math.Float64bits(imag(a)) == math.Float64bits(imag(b))
}
