package tests

import (
	"cmp"
	"fmt"
	"math"
	"math/big"
	"math/rand"
	"slices"
	"sync"
	"testing"

	"loop.example/g01380/impl"
)

func discriminantAsTold(f impl.Form) int64 {
	return f[1]*f[1] - 4*f[0]*f[2]
}

// exactValue tells the value without overflow.
func exactValue(f impl.Form, x, y int64) *big.Int {
	sum := new(big.Int)
	for i, factors := range [][2]int64{{x, x}, {x, y}, {y, y}} {
		term := new(big.Int).Mul(big.NewInt(factors[0]), big.NewInt(factors[1]))
		sum.Add(sum, term.Mul(term, big.NewInt(f[i])))
	}
	return sum
}

// exactForm tells the form that m makes of f by its values at 1, 0 and 0, 1 and 1, 1, and whether
// its numbers are within MaxForm.
func exactForm(f impl.Form, m impl.Matrix) (impl.Form, bool) {
	first := exactValue(f, m[0], m[2])
	last := exactValue(f, m[1], m[3])
	middle := exactValue(f, m[0]+m[1], m[2]+m[3])
	middle.Sub(middle, first).Sub(middle, last)
	within := true
	for _, x := range []*big.Int{first, middle, last} {
		within = within && x.CmpAbs(big.NewInt(impl.MaxForm)) <= 0
	}
	return impl.Form{first.Int64(), middle.Int64(), last.Int64()}, within
}

// rootAsTold rounds down. A float64 has each discriminant exactly, and no root of one is so near to
// the next whole number that it is taken for it.
func rootAsTold(d int64) int64 {
	return int64(math.Sqrt(float64(d)))
}

func isSquareAsTold(d int64) bool {
	return d >= 0 && rootAsTold(d)*rootAsTold(d) == d
}

func isDefiniteAsTold(f impl.Form) bool {
	return discriminantAsTold(f) < 0 && f[0] > 0
}

func isIndefiniteAsTold(f impl.Form) bool {
	return discriminantAsTold(f) > 0 && !isSquareAsTold(discriminantAsTold(f))
}

// isReducedAsTold compares with the root rounded down, which the definition does without.
func isReducedAsTold(f impl.Form) bool {
	a, b, c := f[0], f[1], f[2]
	switch {
	case isDefiniteAsTold(f):
		return -a < b && b <= a && a < c || 0 <= b && b <= a && a == c
	case isIndefiniteAsTold(f):
		root, n := rootAsTold(discriminantAsTold(f)), 2*max(a, -a)
		return 1 <= b && b <= root && n+b >= root+1 && n-b <= root
	}
	return false
}

func isPrimitiveAsTold(f impl.Form) bool {
	divisor := new(big.Int)
	for _, x := range f {
		divisor.GCD(nil, nil, divisor, new(big.Int).Abs(big.NewInt(x)))
	}
	return divisor.Int64() == 1
}

// smallForms has all forms with numbers from -n to n, in order.
func smallForms(n int64) []impl.Form {
	var list []impl.Form
	for a := -n; a <= n; a++ {
		for b := -n; b <= n; b++ {
			for c := -n; c <= n; c++ {
				if f := (impl.Form{a, b, c}); f != (impl.Form{}) {
					list = append(list, f)
				}
			}
		}
	}
	return list
}

const mostForm = impl.MaxForm

// greatForms has forms with numbers at MaxForm and 0, and others with all sizes of numbers.
func greatForms() []impl.Form {
	var list []impl.Form
	for _, a := range []int64{-mostForm, 1 - mostForm, -1, 0, 1, mostForm - 1, mostForm} {
		for _, b := range []int64{-mostForm, 1 - mostForm, -1, 0, 1, mostForm - 1, mostForm} {
			for _, c := range []int64{-mostForm, 1 - mostForm, -1, 0, 1, mostForm - 1, mostForm} {
				if f := (impl.Form{a, b, c}); f != (impl.Form{}) {
					list = append(list, f)
				}
			}
		}
	}
	random := rand.New(rand.NewSource(5))
	for range 3000 {
		var f impl.Form
		for i := range f {
			limit := []int64{10, 1000, 30000, mostForm}[random.Intn(4)]
			f[i] = random.Int63n(2*limit+1) - limit
		}
		if f != (impl.Form{}) {
			list = append(list, f)
		}
	}
	return list
}

func someForms() []impl.Form {
	return append(smallForms(4), greatForms()...)
}

func badForms() []impl.Form {
	list := []impl.Form{{}, {mostForm + 1, mostForm + 1, mostForm + 1}, {1 << 32, 1 << 32, 1 << 32}}
	for _, x := range append(beyond(), mostForm+1, -mostForm-1) {
		list = append(list, impl.Form{x, 0, 0}, impl.Form{0, x, 0}, impl.Form{0, 0, x}, impl.Form{x, 1, 1}, impl.Form{1, x, -1}, impl.Form{1, 1, x})
	}
	return list
}

// definiteForms and indefiniteForms have just these of some forms.
func definiteForms() []impl.Form {
	return slices.DeleteFunc(someForms(), func(f impl.Form) bool { return !isDefiniteAsTold(f) })
}

func indefiniteForms() []impl.Form {
	return slices.DeleteFunc(someForms(), func(f impl.Form) bool { return !isIndefiniteAsTold(f) })
}

// otherForms has forms that are neither: of the discriminant 0, of squares, and with negative values.
func otherForms() []impl.Form {
	list := []impl.Form{
		{1, 2, 1}, {0, 0, 1}, {mostForm, 0, 0}, {250000, mostForm, mostForm}, {0, mostForm, 0}, {0, mostForm, mostForm}, {1, 3, 2}, {2, 5, 2},
		{1, 0, -mostForm}, {-1, 0, -1}, {-1, 1, -1}, {-mostForm, 0, -mostForm}, {-mostForm, mostForm, -mostForm}, {1, 0, -1}, {mostForm, 0, -mostForm},
	}
	return append(list, slices.DeleteFunc(someForms(), func(f impl.Form) bool { return isDefiniteAsTold(f) || isIndefiniteAsTold(f) })...)
}

// reducedIndefiniteForms has some of all sizes: random forms are seldom reduced, so b is led between
// the bounds.
func reducedIndefiniteForms() []impl.Form {
	list := slices.DeleteFunc(append(smallForms(12), greatForms()...), func(f impl.Form) bool {
		return !isIndefiniteAsTold(f) || !isReducedAsTold(f)
	})
	random := rand.New(rand.NewSource(55))
	for len(list) < 3000 {
		limit := []int64{60, 3000, mostForm}[random.Intn(3)]
		f := impl.Form{random.Int63n(limit) + 1, random.Int63n(limit) + 1, -random.Int63n(limit) - 1}
		if random.Intn(2) == 0 {
			f[0], f[2] = f[2], f[0]
		}
		if isIndefiniteAsTold(f) && isReducedAsTold(f) {
			list = append(list, f)
		}
	}
	return list
}

func wantForm(t *testing.T, what string, f impl.Form, code int64, want impl.Form) {
	t.Helper()
	if f != want || code != impl.ErrNone {
		t.Errorf("%s = %v, %d, not %v", what, f, code, want)
	}
}

func wantNoForm(t *testing.T, what string, f impl.Form, code int64, want int64) {
	t.Helper()
	if f != (impl.Form{}) || code != want {
		t.Errorf("%s = %v, %d, not the error %d", what, f, code, want)
	}
}

func wantForms(t *testing.T, what string, list []impl.Form, code int64, want []impl.Form) {
	t.Helper()
	if !slices.Equal(list, want) || code != impl.ErrNone {
		t.Errorf("%s = %v, %d, not %v", what, list, code, want)
	}
}

func wantNoForms(t *testing.T, what string, list []impl.Form, code int64, want int64) {
	t.Helper()
	if len(list) != 0 || code != want {
		t.Errorf("%s = %v, %d, not the error %d", what, list, code, want)
	}
}

func wantReduction(t *testing.T, f, want impl.Form, wantMatrix impl.Matrix) {
	t.Helper()
	reduced, m, code := impl.ReduceForm(f)
	if reduced != want || m != wantMatrix || code != impl.ErrNone {
		t.Errorf("ReduceForm(%v) = %v, %v, %d, not %v, %v", f, reduced, m, code, want, wantMatrix)
	}
}

func wantNoReduction(t *testing.T, f impl.Form, want int64) {
	t.Helper()
	reduced, m, code := impl.ReduceForm(f)
	if reduced != (impl.Form{}) || m != (impl.Matrix{}) || code != want {
		t.Errorf("ReduceForm(%v) = %v, %v, %d, not the error %d", f, reduced, m, code, want)
	}
}

func wantReduced(t *testing.T, f impl.Form, want bool) {
	t.Helper()
	answer, code := impl.IsReducedForm(f)
	wantAnswer(t, fmt.Sprintf("IsReducedForm(%v)", f), answer, code, want)
}

func wantEquivalent(t *testing.T, f, g impl.Form, want bool) {
	t.Helper()
	answer, code := impl.AreEquivalent(f, g)
	wantAnswer(t, fmt.Sprintf("AreEquivalent(%v, %v)", f, g), answer, code, want)
	answer, code = impl.AreEquivalent(g, f)
	wantAnswer(t, fmt.Sprintf("AreEquivalent(%v, %v)", g, f), answer, code, want)
}

func wantNoEquivalent(t *testing.T, f, g impl.Form, want int64) {
	t.Helper()
	answer, code := impl.AreEquivalent(f, g)
	wantNoAnswer(t, fmt.Sprintf("AreEquivalent(%v, %v)", f, g), answer, code, want)
	answer, code = impl.AreEquivalent(g, f)
	wantNoAnswer(t, fmt.Sprintf("AreEquivalent(%v, %v)", g, f), answer, code, want)
}

func wantKept(t *testing.T, f impl.Form, m impl.Matrix, want bool) {
	t.Helper()
	answer, code := impl.KeepsForm(f, m)
	wantAnswer(t, fmt.Sprintf("KeepsForm(%v, %v)", f, m), answer, code, want)
}

func TestLimitsOfForms(t *testing.T) {
	if impl.MaxForm != 1000000 || impl.MaxDisc != 2000 {
		t.Errorf("MaxForm is %d, MaxDisc is %d", impl.MaxForm, impl.MaxDisc)
	}
}

func TestIsForm(t *testing.T) {
	for _, f := range someForms() {
		if !impl.IsForm(f) {
			t.Errorf("IsForm(%v) = false", f)
		}
	}
	for _, f := range badForms() {
		if impl.IsForm(f) {
			t.Errorf("IsForm(%v) = true", f)
		}
	}
}

func TestDiscriminantOf(t *testing.T) {
	for _, f := range someForms() {
		d, code := impl.DiscriminantOf(f)
		wantNumber(t, fmt.Sprintf("DiscriminantOf(%v)", f), d, code, discriminantAsTold(f))
	}
	for _, c := range []struct {
		f    impl.Form
		want int64
	}{
		{impl.Form{1, 0, 1}, -4}, {impl.Form{-1, 1, -1}, -3}, {impl.Form{1, 1, -1}, 5}, {impl.Form{1, 2, 1}, 0}, {impl.Form{0, 0, 7}, 0}, {impl.Form{0, -3, 7}, 9},
		{impl.Form{mostForm, mostForm, -mostForm}, 5000000000000}, {impl.Form{-mostForm, -mostForm, mostForm}, 5000000000000},
		{impl.Form{mostForm, 0, mostForm}, -4000000000000}, {impl.Form{-mostForm, 0, -mostForm}, -4000000000000}, {impl.Form{0, -mostForm, mostForm}, 1000000000000},
	} {
		d, code := impl.DiscriminantOf(c.f)
		wantNumber(t, fmt.Sprintf("DiscriminantOf(%v)", c.f), d, code, c.want)
	}
}

func TestValueAt(t *testing.T) {
	places := []int64{-1000, -999, -7, -1, 0, 1, 2, 30, 999, 1000}
	for i, f := range someForms() {
		for j, x := range places {
			y := places[(i+j)%len(places)]
			value, code := impl.ValueAt(f, x, y)
			wantNumber(t, fmt.Sprintf("ValueAt(%v, %d, %d)", f, x, y), value, code, exactValue(f, x, y).Int64())
		}
	}
	for _, c := range []struct {
		f          impl.Form
		x, y, want int64
	}{
		{impl.Form{2, 1, 3}, 1, -2, 12}, {impl.Form{2, 1, 3}, 0, 0, 0}, {impl.Form{2, 5, 7}, 3, 0, 18}, {impl.Form{2, 5, 7}, 0, -3, 63},
		{impl.Form{mostForm, mostForm, mostForm}, 1000, 1000, 3000000000000}, {impl.Form{mostForm, -mostForm, mostForm}, -1000, 1000, 3000000000000},
		{impl.Form{-mostForm, mostForm, -mostForm}, 1000, -1000, -3000000000000}, {impl.Form{1, 0, 0}, -1000, 1000, 1000000}, {impl.Form{0, 1, 0}, -1000, 1000, -1000000},
	} {
		value, code := impl.ValueAt(c.f, c.x, c.y)
		wantNumber(t, fmt.Sprintf("ValueAt(%v, %d, %d)", c.f, c.x, c.y), value, code, c.want)
	}
}

func TestValueAtRefuses(t *testing.T) {
	for _, x := range append(beyond(), -1001, 1001) {
		for _, y := range []int64{-1000, 0, 1000, x} {
			value, code := impl.ValueAt(impl.Form{2, 1, 3}, x, y)
			wantNoNumber(t, fmt.Sprintf("ValueAt at %d, %d", x, y), value, code, impl.ErrRange)
			value, code = impl.ValueAt(impl.Form{2, 1, 3}, y, x)
			wantNoNumber(t, fmt.Sprintf("ValueAt at %d, %d", y, x), value, code, impl.ErrRange)
		}
	}
	for _, bad := range badForms() {
		for _, x := range []int64{0, 1000, 1001, 1<<63 - 1} {
			value, code := impl.ValueAt(bad, x, x)
			wantNoNumber(t, fmt.Sprintf("ValueAt(%v, %d, %d)", bad, x, x), value, code, impl.ErrInvalid)
		}
	}
}

// appliedMatrices has matrices with numbers of at most 1000, and some with 1000 itself.
func appliedMatrices(t *testing.T) []impl.Matrix {
	t.Helper()
	list := []impl.Matrix{
		{1, 1000, 0, 1}, {1, -1000, 0, 1}, {1, 0, 1000, 1}, {1, 0, -1000, 1}, {1000, -1, 1, 0}, {0, 1, -1, 1000}, {-1000, 999, 1, -1},
		{999, 1000, 998, 999}, {-1000, -999, 999, 998}, {1000, 499, 501, 250}, {-1000, 499, 501, -250}, {30, 31, 29, 30},
	}
	for _, m := range append(someMatrices(t, 2), wordMatrices()...) {
		if slices.Max(m[:]) <= 1000 && slices.Min(m[:]) >= -1000 {
			list = append(list, m)
		}
	}
	return list
}

// farMatrices has matrices with a number just beyond 1000, in each place, and with greater ones.
func farMatrices() []impl.Matrix {
	return []impl.Matrix{
		{1001, -1, 1, 0}, {-1001, -1, 1, 0}, {1, 1001, 0, 1}, {1, -1001, 0, 1}, {1, 0, 1001, 1}, {1, 0, -1001, 1}, {0, 1, -1, 1001}, {0, 1, -1, -1001},
		{1, most, 0, 1}, {1, 0, least, 1}, {most, -1, 1, 0}, {0, -1, 1, least}, {most, most - 1, 1, 1},
	}
}

// Promise 5, too: the discriminant stays.
func TestApplyMatrix(t *testing.T) {
	matrices := appliedMatrices(t)
	forms := someForms()
	for i, f := range forms {
		for j, m := range matrices {
			if (i+j)%7 != 0 && i > 60 {
				continue
			}
			what := fmt.Sprintf("ApplyMatrix(%v, %v)", f, m)
			made, code := impl.ApplyMatrix(f, m)
			want, within := exactForm(f, m)
			if !within {
				wantNoForm(t, what, made, code, impl.ErrLimit)
				continue
			}
			wantForm(t, what, made, code, want)
			d, code := impl.DiscriminantOf(made)
			wantNumber(t, "the discriminant of "+what, d, code, discriminantAsTold(f))
		}
	}
}

func TestApplyMatrixAtTheLimit(t *testing.T) {
	for _, c := range []struct {
		f    impl.Form
		m    impl.Matrix
		want impl.Form
	}{
		{impl.Form{2, 1, 3}, impl.Matrix{1, 1, 0, 1}, impl.Form{2, 5, 6}},
		{impl.Form{2, 1, 3}, s, impl.Form{3, -1, 2}},
		{impl.Form{2, 1, 3}, impl.Matrix{2, 1, 1, 1}, impl.Form{13, 17, 6}},
		{impl.Form{2, 1, 3}, impl.Matrix{1, 0, 1, 1}, impl.Form{6, 7, 3}},
		{impl.Form{1, 0, 0}, impl.Matrix{1000, -1, 1, 0}, impl.Form{mostForm, -2000, 1}},
		{impl.Form{1, 0, 0}, impl.Matrix{1000, 499, 501, 250}, impl.Form{mostForm, 998000, 249001}},
		{impl.Form{1, 0, 0}, impl.Matrix{1, 1000, 0, 1}, impl.Form{1, 2000, mostForm}},
		{impl.Form{0, 0, -1}, impl.Matrix{1, 0, 1000, 1}, impl.Form{-mostForm, -2000, -1}},
		{impl.Form{mostForm, -mostForm, 0}, impl.Matrix{1, 1, 0, 1}, impl.Form{mostForm, mostForm, 0}},
		{impl.Form{-mostForm, mostForm, 0}, impl.Matrix{1, 1, 0, 1}, impl.Form{-mostForm, -mostForm, 0}},
		{impl.Form{mostForm, -mostForm, mostForm}, impl.Matrix{0, 1, -1, 0}, impl.Form{mostForm, mostForm, mostForm}},
	} {
		made, code := impl.ApplyMatrix(c.f, c.m)
		wantForm(t, fmt.Sprintf("ApplyMatrix(%v, %v)", c.f, c.m), made, code, c.want)
	}
	for _, c := range []struct {
		f impl.Form
		m impl.Matrix
	}{
		// Just one number is MaxForm + 1, without its sign: the first one, the last one, the middle one.
		{impl.Form{1, 0, 1}, impl.Matrix{1000, -1, 1, 0}}, {impl.Form{-1, 0, -1}, impl.Matrix{1000, -1, 1, 0}},
		{impl.Form{1, 0, 1}, impl.Matrix{1, 1000, 0, 1}}, {impl.Form{-1, 0, -1}, impl.Matrix{1, 1000, 0, 1}},
		{impl.Form{mostForm, -999999, 0}, impl.Matrix{1, 1, 0, 1}}, {impl.Form{-mostForm, 999999, 0}, impl.Matrix{1, 1, 0, 1}},
		{impl.Form{mostForm, mostForm, mostForm}, impl.Matrix{999, 1000, 998, 999}}, {impl.Form{1, 0, 0}, impl.Matrix{999, 1000, 998, 999}},
	} {
		made, code := impl.ApplyMatrix(c.f, c.m)
		wantNoForm(t, fmt.Sprintf("ApplyMatrix(%v, %v)", c.f, c.m), made, code, impl.ErrLimit)
	}
}

func TestWhatIsNotApplied(t *testing.T) {
	for _, m := range farMatrices() {
		for _, f := range []impl.Form{{1, 0, 0}, {0, 0, 1}, {1, 0, 1}, {mostForm, mostForm, mostForm}} {
			made, code := impl.ApplyMatrix(f, m)
			wantNoForm(t, fmt.Sprintf("ApplyMatrix(%v, %v)", f, m), made, code, impl.ErrRange)
			answer, code := impl.KeepsForm(f, m)
			wantNoAnswer(t, fmt.Sprintf("KeepsForm(%v, %v)", f, m), answer, code, impl.ErrRange)
		}
	}
	wantNothingApplied := func(f impl.Form, m impl.Matrix) {
		made, code := impl.ApplyMatrix(f, m)
		wantNoForm(t, fmt.Sprintf("ApplyMatrix(%v, %v)", f, m), made, code, impl.ErrInvalid)
		answer, code := impl.KeepsForm(f, m)
		wantNoAnswer(t, fmt.Sprintf("KeepsForm(%v, %v)", f, m), answer, code, impl.ErrInvalid)
	}
	for _, bad := range badForms() {
		for _, m := range append(farMatrices(), one, cat, impl.Matrix{}) {
			wantNothingApplied(bad, m)
		}
	}
	for _, bad := range badMatrices() {
		for _, f := range []impl.Form{{1, 0, 1}, {mostForm, mostForm, mostForm}, {mostForm + 1, 0, 1}, {}} {
			wantNothingApplied(f, bad)
		}
	}
}

// reducedAsTold takes the steps of the document, with each power of T letter by letter.
func reducedAsTold(f impl.Form) (impl.Form, impl.Matrix) {
	m := one
	for !isReducedAsTold(f) {
		step := s
		if f[1] <= -f[0] || f[1] > f[0] {
			step = one
			for b := f[1]; b <= -f[0]; b += 2 * f[0] {
				step[1]++
			}
			for b := f[1]; b > f[0]; b -= 2 * f[0] {
				step[1]--
			}
		}
		f, _ = exactForm(f, step)
		m, _ = exactProduct(m, step)
	}
	return f, m
}

// Promise 5: the matrix makes the reduced form, which has the discriminant of the first one.
func TestReduceForm(t *testing.T) {
	for _, f := range definiteForms() {
		want, wantMatrix := reducedAsTold(f)
		wantReduction(t, f, want, wantMatrix)
		reduced, m, _ := impl.ReduceForm(f)
		if made, within := exactForm(f, m); made != reduced || !within || !impl.IsMatrix(m) {
			t.Errorf("ReduceForm(%v) = %v, %v, but this matrix makes %v", f, reduced, m, made)
		}
		wantReduced(t, reduced, true)
		d, code := impl.DiscriminantOf(reduced)
		wantNumber(t, fmt.Sprintf("the discriminant of %v", reduced), d, code, discriminantAsTold(f))
		wantReduction(t, reduced, reduced, one)
	}
}

func TestReduceFormExamples(t *testing.T) {
	for _, c := range []struct {
		f, want impl.Form
		m       impl.Matrix
	}{
		{impl.Form{2, 5, 6}, impl.Form{2, 1, 3}, impl.Matrix{1, -1, 0, 1}},
		{impl.Form{3, -1, 2}, impl.Form{2, 1, 3}, s},
		{impl.Form{1, 0, 1}, impl.Form{1, 0, 1}, one},
		// b at -a, at -a + 1 and at a, and just beyond a.
		{impl.Form{3, -3, 5}, impl.Form{3, 3, 5}, impl.Matrix{1, 1, 0, 1}},
		{impl.Form{3, -2, 5}, impl.Form{3, -2, 5}, one},
		{impl.Form{3, 3, 5}, impl.Form{3, 3, 5}, one},
		{impl.Form{3, 4, 5}, impl.Form{3, -2, 4}, impl.Matrix{1, -1, 0, 1}},
		{impl.Form{3, -9, 11}, impl.Form{3, 3, 5}, impl.Matrix{1, 2, 0, 1}},
		{impl.Form{3, 9, 11}, impl.Form{3, 3, 5}, impl.Matrix{1, -1, 0, 1}},
		{impl.Form{3, -3, 3}, impl.Form{3, 3, 3}, impl.Matrix{1, 1, 0, 1}},
		// a is c, and b on either side of 0.
		{impl.Form{5, -3, 5}, impl.Form{5, 3, 5}, s}, {impl.Form{5, 3, 5}, impl.Form{5, 3, 5}, one}, {impl.Form{5, 0, 5}, impl.Form{5, 0, 5}, one},
		{impl.Form{5, -4, 5}, impl.Form{5, 4, 5}, s}, {impl.Form{5, -5, 5}, impl.Form{5, 5, 5}, impl.Matrix{1, 1, 0, 1}},
		{impl.Form{5, 13, 13}, impl.Form{5, 3, 5}, impl.Matrix{1, -1, 0, 1}}, {impl.Form{5, 7, 7}, impl.Form{5, 3, 5}, impl.Matrix{-1, -1, 1, 0}},
		// Great numbers on the way.
		{impl.Form{250001, mostForm, mostForm}, impl.Form{4, 4, 250001}, impl.Matrix{-2, -1, 1, 0}},
		{impl.Form{mostForm, 2000, 2}, impl.Form{2, 0, 500000}, impl.Matrix{0, -1, 1, 500}},
		{impl.Form{mostForm, 1, mostForm}, impl.Form{mostForm, 1, mostForm}, one},
		{impl.Form{mostForm, -1, mostForm}, impl.Form{mostForm, 1, mostForm}, s},
		{impl.Form{mostForm, -mostForm, mostForm}, impl.Form{mostForm, mostForm, mostForm}, impl.Matrix{1, 1, 0, 1}},
		{impl.Form{1, 0, mostForm}, impl.Form{1, 0, mostForm}, one},
		{impl.Form{mostForm, 0, 1}, impl.Form{1, 0, mostForm}, s},
	} {
		if reduced, m := reducedAsTold(c.f); reduced != c.want || m != c.m {
			t.Errorf("%v is told to be reduced to %v by %v, not to %v by %v", c.f, reduced, m, c.want, c.m)
		}
		wantReduction(t, c.f, c.want, c.m)
	}
}

// TestReduceFormsFarAway has the forms that great matrices make of reduced ones.
func TestReduceFormsFarAway(t *testing.T) {
	count := 0
	for _, reduced := range []impl.Form{{1, 0, 1}, {1, 1, 1}, {1, 0, 5}, {2, 1, 3}, {2, -1, 3}, {3, 3, 5}, {4, 4, 250001}, {6, -5, 9}, {4, 2, 6}} {
		for _, m := range append(appliedMatrices(t), farMatrices()...) {
			f, within := exactForm(reduced, m)
			if !within {
				continue
			}
			count++
			want, wantMatrix := reducedAsTold(f)
			wantReduction(t, f, want, wantMatrix)
			if want != reduced {
				t.Errorf("%v comes from %v, but is reduced to %v", f, reduced, want)
			}
			wantEquivalent(t, f, reduced, true)
		}
	}
	if count < 500 {
		t.Errorf("there are only %d forms", count)
	}
}

func TestReduceFormRefuses(t *testing.T) {
	for _, f := range append(otherForms(), indefiniteForms()...) {
		wantNoReduction(t, f, impl.ErrState)
	}
	for _, bad := range badForms() {
		wantNoReduction(t, bad, impl.ErrInvalid)
	}
}

func TestIsReducedForm(t *testing.T) {
	counts := map[[2]bool]int{}
	for _, f := range append(smallForms(12), greatForms()...) {
		if !isDefiniteAsTold(f) && !isIndefiniteAsTold(f) {
			continue
		}
		want := isReducedAsTold(f)
		counts[[2]bool{isDefiniteAsTold(f), want}]++
		wantReduced(t, f, want)
	}
	if len(counts) != 4 {
		t.Errorf("there are only forms of these sorts: %v", counts)
	}
	for _, f := range reducedIndefiniteForms() {
		wantReduced(t, f, true)
	}
}

func TestIsReducedFormAtItsBounds(t *testing.T) {
	for _, c := range []struct {
		f    impl.Form
		want bool
	}{
		{impl.Form{3, -2, 3}, false}, {impl.Form{3, 0, 3}, true}, {impl.Form{3, 2, 3}, true}, {impl.Form{3, 3, 3}, true}, {impl.Form{3, -3, 3}, false},
		{impl.Form{3, -3, 4}, false}, {impl.Form{3, -2, 4}, true}, {impl.Form{3, 3, 4}, true}, {impl.Form{3, 4, 4}, false}, {impl.Form{4, 1, 3}, false},
		// b of 0, and less than 0.
		{impl.Form{1, 0, -2}, false}, {impl.Form{-1, 0, 2}, false}, {impl.Form{1, -1, -1}, false}, {impl.Form{-1, -1, 1}, false}, {impl.Form{1, 1, -1}, true}, {impl.Form{-1, 1, 1}, true},
		// b b beyond the discriminant, which 9 and 25 are here.
		{impl.Form{1, 3, 1}, false}, {impl.Form{-1, 3, -1}, false}, {impl.Form{1, 5, 1}, false}, {impl.Form{1, 3, -1}, true}, {impl.Form{-1, 3, 1}, true},
		// n + b of 4 and 5, where the root of 17 and 21 is between them.
		{impl.Form{1, 3, -2}, true}, {impl.Form{-1, 3, 2}, true}, {impl.Form{1, 3, -3}, true}, {impl.Form{-1, 3, 3}, true},
		{impl.Form{1, 1, -4}, false}, {impl.Form{-1, 1, 4}, false}, {impl.Form{1, 2, -4}, false}, {impl.Form{-1, 2, 4}, false}, {impl.Form{1, 2, -2}, true}, {impl.Form{-1, 2, 2}, true},
		// n - b of less than 0, of 0, at the root of 17 and beyond it.
		{impl.Form{1, 4, -1}, true}, {impl.Form{-1, 4, 1}, true}, {impl.Form{1, 2, -1}, true}, {impl.Form{-1, 2, 1}, true}, {impl.Form{2, 1, -2}, true}, {impl.Form{-2, 1, 2}, true},
		{impl.Form{4, 1, -1}, false}, {impl.Form{-4, 1, 1}, false}, {impl.Form{3, 2, -2}, true}, {impl.Form{4, 2, -1}, false}, {impl.Form{-4, 2, 1}, false},
		{impl.Form{mostForm, mostForm, -mostForm}, true}, {impl.Form{-mostForm, mostForm, mostForm}, true}, {impl.Form{mostForm, 1, -mostForm}, true},
		{impl.Form{mostForm, 1, 2 - mostForm}, false}, {impl.Form{mostForm, 2, 1 - mostForm}, true}, {impl.Form{mostForm - 2, 1, -mostForm}, false},
		{impl.Form{mostForm - 1, 2, -mostForm}, true}, {impl.Form{1, mostForm, -1}, true}, {impl.Form{-1, mostForm, 1}, true}, {impl.Form{1, mostForm, 1}, false},
	} {
		if isReducedAsTold(c.f) != c.want {
			t.Errorf("%v is told to be reduced: %t", c.f, !c.want)
		}
		wantReduced(t, c.f, c.want)
	}
}

func TestIsReducedFormRefuses(t *testing.T) {
	for _, f := range otherForms() {
		answer, code := impl.IsReducedForm(f)
		wantNoAnswer(t, fmt.Sprintf("IsReducedForm(%v)", f), answer, code, impl.ErrState)
	}
	for _, bad := range badForms() {
		answer, code := impl.IsReducedForm(bad)
		wantNoAnswer(t, fmt.Sprintf("IsReducedForm(%v)", bad), answer, code, impl.ErrInvalid)
	}
}

// formsByDiscriminant has all reduced forms of each discriminant up to MaxDisc, without its sign, in
// order: definite ones have 3 a a up to it, and a c at most a third of it; indefinite ones have a and
// b below its root, and a c at most a quarter of it.
func formsByDiscriminant() map[int64][]impl.Form {
	found := map[int64][]impl.Form{}
	for a := int64(-45); a <= 45; a++ {
		for b := int64(-45); b <= 45; b++ {
			for c := int64(-700); c <= 700; c++ {
				f := impl.Form{a, b, c}
				d := discriminantAsTold(f)
				if d >= -impl.MaxDisc && d <= impl.MaxDisc && d != 0 && isReducedAsTold(f) {
					found[d] = append(found[d], f)
				}
			}
		}
	}
	return found
}

func isDiscriminantAsTold(d int64) bool {
	rest := new(big.Int).Mod(big.NewInt(d), big.NewInt(4)).Int64()
	return d >= -impl.MaxDisc && d <= impl.MaxDisc && rest <= 1 && !isSquareAsTold(d)
}

// reachedByForms has all forms of the list that come from f by S, T and the inverse of T, step by
// step, with a middle number that is, without its sign, below the root of the discriminant: a form
// leads to the next one like that.
func reachedByForms(f impl.Form) map[impl.Form]bool {
	root := rootAsTold(discriminantAsTold(f))
	reached := map[impl.Form]bool{f: true}
	for queue := []impl.Form{f}; len(queue) > 0; queue = queue[1:] {
		for _, m := range []impl.Matrix{s, powerOfT(1), powerOfT(-1)} {
			g, _ := exactForm(queue[0], m)
			if !reached[g] && g[1] <= root && g[1] >= -root {
				reached[g] = true
				queue = append(queue, g)
			}
		}
	}
	return reached
}

func countClassesAsTold(list []impl.Form) int64 {
	count := int64(0)
	for len(list) > 0 {
		reached := reachedByForms(list[0])
		list = slices.DeleteFunc(slices.Clone(list), func(f impl.Form) bool { return reached[f] })
		count++
	}
	return count
}

func TestFormsOfAndClassNumber(t *testing.T) {
	found := formsByDiscriminant()
	someNotPrimitive := 0
	for d := int64(-impl.MaxDisc - 5); d <= impl.MaxDisc+5; d++ {
		list, code := impl.FormsOf(d)
		number, numberCode := impl.ClassNumber(d)
		if !isDiscriminantAsTold(d) {
			wantNoForms(t, fmt.Sprintf("FormsOf(%d)", d), list, code, impl.ErrRange)
			wantNoNumber(t, fmt.Sprintf("ClassNumber(%d)", d), number, numberCode, impl.ErrRange)
			continue
		}
		var want []impl.Form
		for _, f := range found[d] {
			if isPrimitiveAsTold(f) {
				want = append(want, f)
			} else {
				someNotPrimitive++
			}
		}
		wantForms(t, fmt.Sprintf("FormsOf(%d)", d), list, code, want)
		wantCount := int64(len(want))
		if d > 0 {
			wantCount = countClassesAsTold(want)
		}
		wantNumber(t, fmt.Sprintf("ClassNumber(%d)", d), number, numberCode, wantCount)
	}
	if someNotPrimitive < 1000 {
		t.Errorf("only %d forms are not primitive", someNotPrimitive)
	}
}

func TestFormsOfExamples(t *testing.T) {
	for d, want := range map[int64][]impl.Form{
		-3: {{1, 1, 1}}, -4: {{1, 0, 1}}, -7: {{1, 1, 2}}, -8: {{1, 0, 2}}, -12: {{1, 0, 3}}, -15: {{1, 1, 4}, {2, 1, 2}}, -16: {{1, 0, 4}},
		-23: {{1, 1, 6}, {2, -1, 3}, {2, 1, 3}}, -27: {{1, 1, 7}}, -36: {{1, 0, 9}, {2, 2, 5}}, -56: {{1, 0, 14}, {2, 0, 7}, {3, -2, 5}, {3, 2, 5}},
		5: {{-1, 1, 1}, {1, 1, -1}}, 8: {{-1, 2, 1}, {1, 2, -1}}, 12: {{-2, 2, 1}, {-1, 2, 2}, {1, 2, -2}, {2, 2, -1}},
		13: {{-1, 3, 1}, {1, 3, -1}}, 17: {{-2, 1, 2}, {-2, 3, 1}, {-1, 3, 2}, {1, 3, -2}, {2, 1, -2}, {2, 3, -1}},
		20: {{-1, 4, 1}, {1, 4, -1}}, 32: {{-4, 4, 1}, {-1, 4, 4}, {1, 4, -4}, {4, 4, -1}},
	} {
		list, code := impl.FormsOf(d)
		wantForms(t, fmt.Sprintf("FormsOf(%d)", d), list, code, want)
	}
}

func TestClassNumberExamples(t *testing.T) {
	for d, want := range map[int64]int64{
		-3: 1, -4: 1, -7: 1, -8: 1, -11: 1, -12: 1, -15: 2, -16: 1, -20: 2, -23: 3, -27: 1, -28: 1, -36: 2, -47: 5, -56: 4, -71: 7, -84: 4, -163: 1, -479: 25, -1848: 8, -1999: 27,
		5: 1, 8: 1, 12: 2, 13: 1, 17: 1, 20: 1, 21: 2, 24: 2, 28: 2, 40: 2, 60: 4, 136: 4, 145: 4, 229: 3, 257: 3, 401: 5, 1297: 11,
	} {
		number, code := impl.ClassNumber(d)
		wantNumber(t, fmt.Sprintf("ClassNumber(%d)", d), number, code, want)
	}
}

// kroneckerOf tells 1, -1 or 0 for a discriminant and a number of at least 1.
func kroneckerOf(d, n int64) int64 {
	sign := int64(1)
	for n%2 == 0 {
		n /= 2
		switch ((d % 8) + 8) % 8 {
		case 1:
		case 5:
			sign = -sign
		default:
			return 0
		}
	}
	return sign * int64(big.Jacobi(big.NewInt(d), big.NewInt(n)))
}

// isFundamental tells whether all forms of the discriminant are primitive.
func isFundamental(d int64) bool {
	for n := int64(2); n*n <= -d; n++ {
		if d%(n*n) == 0 && isDiscriminantAsTold(d/(n*n)) {
			return false
		}
	}
	return true
}

// TestClassNumberByDirichlet counts without forms.
func TestClassNumberByDirichlet(t *testing.T) {
	for d := int64(-7); d >= -impl.MaxDisc; d-- {
		if !isDiscriminantAsTold(d) || !isFundamental(d) {
			continue
		}
		sum := int64(0)
		for n := int64(1); n < -d; n++ {
			sum += kroneckerOf(d, n) * n
		}
		number, code := impl.ClassNumber(d)
		wantNumber(t, fmt.Sprintf("ClassNumber(%d)", d), number, code, sum/d)
	}
}

func TestFormsOfRefuses(t *testing.T) {
	for _, d := range append(beyond(), 0, 1, 4, 9, 16, 1936, 2, 3, 6, 7, 1998, 1999, -1, -2, -5, -6, -1997, -1998, 2001, -2001, 2004, -2003, -2004, 2005, 2025) {
		list, code := impl.FormsOf(d)
		wantNoForms(t, fmt.Sprintf("FormsOf(%d)", d), list, code, impl.ErrRange)
		number, code := impl.ClassNumber(d)
		wantNoNumber(t, fmt.Sprintf("ClassNumber(%d)", d), number, code, impl.ErrRange)
	}
	for _, d := range []int64{impl.MaxDisc, -impl.MaxDisc, 1997, -1999} {
		if list, code := impl.FormsOf(d); len(list) == 0 || code != impl.ErrNone {
			t.Errorf("FormsOf(%d) = %v, %d", d, list, code)
		}
	}
}

// nextAsTold asks for each k whether the matrix 0, -1, 1, k makes a reduced form; b of this form is
// within the root of the discriminant.
func nextAsTold(t *testing.T, f impl.Form) (impl.Form, bool) {
	t.Helper()
	var next impl.Form
	root := rootAsTold(discriminantAsTold(f))
	far := root/max(f[2], -f[2]) + 1
	count, within := 0, false
	for k := -far; k <= far; k++ {
		g := impl.Form{f[2], 2*k*f[2] - f[1], f[0] - k*f[1] + k*k*f[2]}
		if g[1] >= 1 && g[1] <= root && isReducedAsTold(g) {
			count++
			next, within = exactForm(f, impl.Matrix{0, -1, 1, k})
		}
	}
	if count != 1 {
		t.Errorf("%d matrices lead %v to a reduced form", count, f)
	}
	return next, within
}

// Promise 5, too: the discriminant stays.
func TestNextForm(t *testing.T) {
	limits := 0
	for _, f := range reducedIndefiniteForms() {
		if max(f[2], -f[2]) < rootAsTold(discriminantAsTold(f))/2000 {
			continue
		}
		what := fmt.Sprintf("NextForm(%v)", f)
		next, code := impl.NextForm(f)
		want, within := nextAsTold(t, f)
		if !within {
			limits++
			wantNoForm(t, what, next, code, impl.ErrLimit)
			continue
		}
		wantForm(t, what, next, code, want)
		d, code := impl.DiscriminantOf(next)
		wantNumber(t, "the discriminant of "+what, d, code, discriminantAsTold(f))
		wantReduced(t, next, true)
	}
	if limits < 20 {
		t.Errorf("only %d next forms are beyond the limit", limits)
	}
}

func TestNextFormExamples(t *testing.T) {
	for _, c := range []struct{ f, want impl.Form }{
		{impl.Form{1, 1, -1}, impl.Form{-1, 1, 1}}, {impl.Form{-1, 1, 1}, impl.Form{1, 1, -1}}, {impl.Form{1, 2, -2}, impl.Form{-2, 2, 1}},
		{impl.Form{2, 2, -2}, impl.Form{-2, 2, 2}}, {impl.Form{2, 1, -2}, impl.Form{-2, 3, 1}}, {impl.Form{-2, 3, 1}, impl.Form{1, 3, -2}},
		{impl.Form{1, mostForm, -1}, impl.Form{-1, mostForm, 1}}, {impl.Form{-1, mostForm, 1}, impl.Form{1, mostForm, -1}},
		{impl.Form{mostForm, mostForm, -1}, impl.Form{-1, mostForm, mostForm}}, {impl.Form{mostForm, mostForm, -mostForm}, impl.Form{-mostForm, mostForm, mostForm}},
		{impl.Form{3, 999999, -1}, impl.Form{-1, 999999, 3}}, {impl.Form{mostForm, mostForm, -2}, impl.Form{-2, mostForm, mostForm}},
		// The middle number comes to MaxForm, and so does the last one.
		{impl.Form{mostForm, 999998, 1 - mostForm}, impl.Form{1 - mostForm, mostForm, 999999}}, {impl.Form{333334, 999998, -3}, impl.Form{-3, mostForm, 1}},
		{impl.Form{mostForm - 1, mostForm, 1 - mostForm}, impl.Form{1 - mostForm, mostForm - 2, mostForm}},
	} {
		if want, within := nextAsTold(t, c.f); want != c.want || !within {
			t.Errorf("%v is told to have the next form %v, %t", c.f, want, within)
		}
		next, code := impl.NextForm(c.f)
		wantForm(t, fmt.Sprintf("NextForm(%v)", c.f), next, code, c.want)
	}
	for _, f := range []impl.Form{
		{mostForm, 500000, -999999}, {mostForm, 1, -mostForm}, {-mostForm, 1, mostForm}, {mostForm, 999999, -mostForm},
		// Just one number comes to MaxForm + 1, without its sign: the middle one, and the last one.
		{500001, 999999, -2}, {-500001, 999999, 2}, {mostForm, mostForm, 1 - mostForm}, {-mostForm, mostForm, mostForm - 1},
	} {
		if _, within := nextAsTold(t, f); within {
			t.Errorf("%v is told to have a next form", f)
		}
		next, code := impl.NextForm(f)
		wantNoForm(t, fmt.Sprintf("NextForm(%v)", f), next, code, impl.ErrLimit)
	}
}

func TestNextFormRefuses(t *testing.T) {
	others := append(otherForms(), definiteForms()...)
	for _, f := range indefiniteForms() {
		if !isReducedAsTold(f) {
			others = append(others, f)
		}
	}
	for _, f := range others {
		next, code := impl.NextForm(f)
		wantNoForm(t, fmt.Sprintf("NextForm(%v)", f), next, code, impl.ErrState)
	}
	for _, bad := range badForms() {
		next, code := impl.NextForm(bad)
		wantNoForm(t, fmt.Sprintf("NextForm(%v)", bad), next, code, impl.ErrInvalid)
	}
}

// cycleAsTold asks for the next form again and again.
func cycleAsTold(t *testing.T, f impl.Form) []impl.Form {
	t.Helper()
	list := []impl.Form{f}
	for {
		g, _ := nextAsTold(t, list[len(list)-1])
		if g == f {
			return list
		}
		list = append(list, g)
	}
}

func TestCycleOf(t *testing.T) {
	for d, forms := range formsByDiscriminant() {
		if d < 0 || d%7 > 1 && d < impl.MaxDisc {
			continue
		}
		for _, f := range forms {
			list, code := impl.CycleOf(f)
			wantForms(t, fmt.Sprintf("CycleOf(%v)", f), list, code, cycleAsTold(t, f))
			for i, g := range list {
				next, code := impl.NextForm(g)
				wantForm(t, fmt.Sprintf("NextForm(%v)", g), next, code, list[(i+1)%len(list)])
				if discriminantAsTold(g) != d {
					t.Errorf("CycleOf(%v) has %v with another discriminant", f, g)
				}
			}
		}
	}
}

func TestCycleOfExamples(t *testing.T) {
	for _, want := range [][]impl.Form{
		{{1, 1, -1}, {-1, 1, 1}}, {{1, 2, -1}, {-1, 2, 1}}, {{1, 2, -2}, {-2, 2, 1}}, {{-1, 2, 2}, {2, 2, -1}}, {{2, 2, -2}, {-2, 2, 2}},
		{{2, 1, -2}, {-2, 3, 1}, {1, 3, -2}, {-2, 1, 2}, {2, 3, -1}, {-1, 3, 2}},
		// The discriminants MaxDisc and 1997.
		{{1, 44, -16}, {-16, 20, 25}, {25, 30, -11}, {-11, 36, 16}, {16, 28, -19}, {-19, 10, 25}, {25, 40, -4}, {-4, 40, 25}, {25, 10, -19}, {-19, 28, 16}, {16, 36, -11}, {-11, 30, 25}, {25, 20, -16}, {-16, 44, 1}},
		{{5, 40, -20}, {-20, 40, 5}}, {{-20, 40, 5}, {5, 40, -20}}, {{1, 43, -37}, {-37, 31, 7}, {7, 39, -17}, {-17, 29, 17}, {17, 39, -7}, {-7, 31, 37}, {37, 43, -1}, {-1, 43, 37}, {37, 31, -7}, {-7, 39, 17}, {17, 29, -17}, {-17, 39, 7}, {7, 31, -37}, {-37, 43, 1}},
	} {
		list, code := impl.CycleOf(want[0])
		wantForms(t, fmt.Sprintf("CycleOf(%v)", want[0]), list, code, want)
	}
}

func TestCycleOfRefuses(t *testing.T) {
	wantNoCycle := func(f impl.Form, want int64) {
		list, code := impl.CycleOf(f)
		wantNoForms(t, fmt.Sprintf("CycleOf(%v)", f), list, code, want)
	}
	for _, f := range append(someForms(), reducedIndefiniteForms()...) {
		switch {
		case discriminantAsTold(f) > impl.MaxDisc:
			wantNoCycle(f, impl.ErrRange)
		case !isIndefiniteAsTold(f) || !isReducedAsTold(f):
			wantNoCycle(f, impl.ErrState)
		}
	}
	// Reduced, not reduced, and a square, all of them just beyond MaxDisc.
	for _, f := range []impl.Form{{1, 43, -38}, {-38, 43, 1}, {1, 1, -500}, {1, -43, -38}, {1, 45, 0}, {1, 44, -17}, {1, 0, -501}} {
		wantNoCycle(f, impl.ErrRange)
	}
	for _, f := range []impl.Form{{1, 0, -3}, {1, 0, -500}, {1, 44, 0}, {0, 44, 1}, {1, 2, 1}, {1, 1, 1}, {-1, 1, -1}, {1, -1, -1}, {-mostForm, 0, -mostForm}, {mostForm, 0, mostForm}} {
		wantNoCycle(f, impl.ErrState)
	}
	for _, bad := range badForms() {
		wantNoCycle(bad, impl.ErrInvalid)
	}
}

func TestAreEquivalentForDefiniteForms(t *testing.T) {
	forms := slices.DeleteFunc(smallForms(4), func(f impl.Form) bool { return !isDefiniteAsTold(f) })
	for _, f := range forms {
		first, _ := reducedAsTold(f)
		for _, g := range forms {
			second, _ := reducedAsTold(g)
			wantEquivalent(t, f, g, first == second)
		}
	}
	matrices := appliedMatrices(t)
	for i, f := range definiteForms() {
		g, within := exactForm(f, matrices[i%len(matrices)])
		if within {
			wantEquivalent(t, f, g, true)
		}
		if mirrored := (impl.Form{f[0], -f[1], f[2]}); i%5 == 0 {
			first, _ := reducedAsTold(f)
			second, _ := reducedAsTold(mirrored)
			wantEquivalent(t, f, mirrored, first == second)
		}
	}
	for _, c := range []struct {
		f, g impl.Form
		want bool
	}{
		{impl.Form{2, 5, 6}, impl.Form{3, -1, 2}, true}, {impl.Form{2, 1, 3}, impl.Form{2, -1, 3}, false}, {impl.Form{2, 1, 3}, impl.Form{1, 1, 6}, false},
		{impl.Form{1, 0, 1}, impl.Form{1, 1, 1}, false}, {impl.Form{2, 0, 2}, impl.Form{2, 4, 4}, true}, {impl.Form{2, 0, 2}, impl.Form{1, 0, 4}, false},
		{impl.Form{mostForm, 1, mostForm}, impl.Form{mostForm, -1, mostForm}, true}, {impl.Form{mostForm, 0, 1}, impl.Form{1, 0, mostForm}, true},
		{impl.Form{mostForm, 0, mostForm}, impl.Form{mostForm, 0, mostForm - 1}, false},
	} {
		wantEquivalent(t, c.f, c.g, c.want)
	}
}

func TestAreEquivalentForIndefiniteForms(t *testing.T) {
	found := formsByDiscriminant()
	for d := int64(5); d <= impl.MaxDisc; d++ {
		if d > 150 && d%41 != 0 && d != impl.MaxDisc && d != 1997 {
			continue
		}
		for _, f := range found[d] {
			reached := reachedByForms(f)
			for _, g := range found[d] {
				wantEquivalent(t, f, g, reached[g])
			}
		}
	}
	for _, c := range []struct {
		f, g impl.Form
		want bool
	}{
		{impl.Form{1, 1, -1}, impl.Form{-1, 1, 1}, true}, {impl.Form{1, 2, -2}, impl.Form{-1, 2, 2}, false}, {impl.Form{1, 2, -2}, impl.Form{-2, 2, 1}, true},
		// Of different discriminants, and not primitive.
		{impl.Form{1, 1, -1}, impl.Form{1, 2, -1}, false}, {impl.Form{2, 2, -2}, impl.Form{-2, 2, 2}, true}, {impl.Form{2, 2, -2}, impl.Form{1, 4, -1}, false},
		{impl.Form{5, 40, -20}, impl.Form{-20, 40, 5}, true}, {impl.Form{5, 40, -20}, impl.Form{1, 44, -16}, false},
	} {
		wantEquivalent(t, c.f, c.g, c.want)
	}
}

func TestAreEquivalentRefuses(t *testing.T) {
	told := []impl.Form{{1, 0, 1}, {2, 5, 6}, {mostForm, 0, mostForm}, {1, 1, -1}, {1, 44, -16}}
	// Not reduced, beyond MaxDisc, and neither definite nor indefinite.
	others := []impl.Form{
		{1, -1, -1}, {1, 0, -2}, {1, 0, -500}, {1, 43, -38}, {1, 44, -17}, {mostForm, mostForm, -mostForm},
		{1, 2, 1}, {0, 0, 1}, {0, 1, 0}, {1, 3, 2}, {-1, 0, -1}, {-2, -5, -6},
	}
	for i, f := range others {
		for _, g := range append(told, others[i:]...) {
			wantNoEquivalent(t, f, g, impl.ErrState)
		}
	}
	for _, f := range told[:3] {
		for _, g := range told[3:] {
			wantNoEquivalent(t, f, g, impl.ErrState)
		}
	}
	for _, bad := range badForms() {
		for _, f := range append(told, append(others, bad)...) {
			wantNoEquivalent(t, bad, f, impl.ErrInvalid)
		}
	}
}

// formOfMatrixAsTold tells the form, and whether it is within the limit.
func formOfMatrixAsTold(m impl.Matrix) (impl.Form, bool) {
	f := impl.Form{m[2], m[3] - m[0], -m[1]}
	divisor := new(big.Int)
	for _, x := range f {
		divisor.GCD(nil, nil, divisor, new(big.Int).Abs(big.NewInt(x)))
	}
	within := true
	for i := range f {
		f[i] /= divisor.Int64()
		within = within && f[i] <= impl.MaxForm && f[i] >= -impl.MaxForm
	}
	return f, within
}

// Promise 16, and what the document says of the discriminant.
func TestFormOfMatrix(t *testing.T) {
	kinds := map[int64]int{}
	limits := 0
	for _, m := range slices.Concat(someMatrices(t, 3), wordMatrices(), appliedMatrices(t), farMatrices()) {
		kind, _ := impl.KindOf(m)
		kinds[kind]++
		what := fmt.Sprintf("FormOfMatrix(%v)", m)
		f, code := impl.FormOfMatrix(m)
		if kind == 0 {
			wantNoForm(t, what, f, code, impl.ErrState)
			continue
		}
		want, within := formOfMatrixAsTold(m)
		if !within {
			limits++
			wantNoForm(t, what, f, code, impl.ErrLimit)
			continue
		}
		wantForm(t, what, f, code, want)
		if made, _ := exactForm(f, m); made != f {
			t.Errorf("%v makes %v of its form %v", m, made, f)
		}
		if slices.Max(m[:]) <= 1000 && slices.Min(m[:]) >= -1000 {
			wantKept(t, f, m, true)
			wantKept(t, f, opposite(m), true)
			wantKept(t, f, opposed(m), true)
			made, code := impl.ApplyMatrix(f, m)
			wantForm(t, fmt.Sprintf("ApplyMatrix(%v, %v)", f, m), made, code, f)
		}
	}
	if len(kinds) != 4 || limits < 5 {
		t.Errorf("there are only these kinds: %v, and %d forms beyond the limit", kinds, limits)
	}
}

func TestFormOfMatrixExamples(t *testing.T) {
	for _, c := range []struct {
		m    impl.Matrix
		want impl.Form
	}{
		{cat, impl.Form{1, -1, -1}}, {opposite(cat), impl.Form{-1, 1, 1}}, {impl.Matrix{5, 3, 3, 2}, impl.Form{1, -1, -1}}, {impl.Matrix{1, 2, 2, 5}, impl.Form{1, 2, -1}},
		{s, impl.Form{1, 0, 1}}, {opposite(s), impl.Form{-1, 0, -1}}, {u, impl.Form{1, -1, 1}}, {v, impl.Form{1, -1, 1}},
		{powerOfT(1), impl.Form{0, 0, -1}}, {powerOfT(-7), impl.Form{0, 0, 1}}, {powerOfT(most), impl.Form{0, 0, -1}}, {impl.Matrix{1, 0, 6, 1}, impl.Form{1, 0, 0}},
		{impl.Matrix{-5, 9, -4, 7}, impl.Form{-4, 12, -9}}, {opposite(powerOfT(3)), impl.Form{0, 0, 1}},
		// The least and the greatest numbers within the limit.
		{impl.Matrix{0, -1, 1, mostForm}, impl.Form{1, mostForm, 1}}, {impl.Matrix{mostForm, -1, 1, 0}, impl.Form{1, -mostForm, 1}},
		{impl.Matrix{1, mostForm, -1, 1 - mostForm}, impl.Form{-1, -mostForm, -mostForm}}, {impl.Matrix{1, -1, mostForm, 1 - mostForm}, impl.Form{mostForm, -mostForm, 1}},
		{impl.Matrix{999, -1, mostForm, -1001}, impl.Form{mostForm, -2000, 1}}, {impl.Matrix{999, mostForm, -1, -1001}, impl.Form{-1, -2000, -mostForm}},
		// Beyond the limit, but for the divisor.
		{impl.Matrix{1, 0, most, 1}, impl.Form{1, 0, 0}},
		{impl.Matrix{1 + 2*mostForm, mostForm, -4 * mostForm, 1 - 2*mostForm}, impl.Form{-4, -4, -1}},
		{impl.Matrix{433494437, 267914296, 267914296, 165580141}, impl.Form{1, -1, -1}},
	} {
		f, code := impl.FormOfMatrix(c.m)
		wantForm(t, fmt.Sprintf("FormOfMatrix(%v)", c.m), f, code, c.want)
	}
	for _, m := range []impl.Matrix{
		// Just one number is MaxForm + 1, without its sign.
		{0, -1, 1, mostForm + 1}, {mostForm + 1, -1, 1, 0}, {1000, mostForm + 1, -1, -1000}, {1000, -1, mostForm + 1, -1000}, {-1000, 1, -mostForm - 1, 1000}, {0, -1, 1, most}, {0, 1, -1, least},
		{most - 1, least, 2 - most, most - 1}, {most, most - 1, 1, 1},
	} {
		f, code := impl.FormOfMatrix(m)
		wantNoForm(t, fmt.Sprintf("FormOfMatrix(%v)", m), f, code, impl.ErrLimit)
	}
	for _, m := range []impl.Matrix{one, opposite(one)} {
		f, code := impl.FormOfMatrix(m)
		wantNoForm(t, fmt.Sprintf("FormOfMatrix(%v)", m), f, code, impl.ErrState)
	}
	for _, bad := range badMatrices() {
		f, code := impl.FormOfMatrix(bad)
		wantNoForm(t, fmt.Sprintf("FormOfMatrix(%v)", bad), f, code, impl.ErrInvalid)
	}
}

func TestKeepsForm(t *testing.T) {
	matrices := appliedMatrices(t)
	for i, f := range someForms() {
		wantKept(t, f, one, true)
		wantKept(t, f, opposite(one), true)
		for j, m := range matrices {
			if (i+j)%7 == 0 || i < 60 {
				made, _ := exactForm(f, m)
				wantKept(t, f, m, made == f)
			}
		}
	}
	for _, c := range []struct {
		f    impl.Form
		m    impl.Matrix
		want bool
	}{
		{impl.Form{1, -1, -1}, cat, true}, {impl.Form{1, -1, -1}, opposite(cat), true}, {impl.Form{1, -1, -1}, impl.Matrix{5, 3, 3, 2}, true},
		{impl.Form{-3, 3, 3}, cat, true}, {impl.Form{1, 1, -1}, cat, false}, {impl.Form{1, 0, 1}, s, true}, {impl.Form{1, 0, 1}, opposite(s), true}, {impl.Form{1, 0, 1}, u, false},
		{impl.Form{1, -1, 1}, u, true}, {impl.Form{1, -1, 1}, v, true}, {impl.Form{1, 1, 1}, u, false}, {impl.Form{0, 0, 1}, powerOfT(1000), true}, {impl.Form{1, 0, 0}, powerOfT(1000), false},
		{impl.Form{mostForm, 0, mostForm}, s, true}, {impl.Form{1, 0, -2}, impl.Matrix{3, 4, 2, 3}, true}, {impl.Form{1, 0, -2}, impl.Matrix{577, 816, 408, 577}, true},
		// It is another form, beyond the limit.
		{impl.Form{mostForm, 0, 1}, cat, false}, {impl.Form{mostForm, mostForm, mostForm}, impl.Matrix{999, 1000, 998, 999}, false},
	} {
		wantKept(t, c.f, c.m, c.want)
	}
}

// valuesAsTold puts the values in a set.
func valuesAsTold(f impl.Form, n int64) []int64 {
	found := map[int64]bool{}
	for x := -n; x <= n; x++ {
		for y := -n; y <= n; y++ {
			found[exactValue(f, x, y).Int64()] = true
		}
	}
	var list []int64
	for value := range found {
		list = append(list, value)
	}
	slices.SortFunc(list, cmp.Compare)
	return list
}

func TestValuesOf(t *testing.T) {
	for i, f := range someForms() {
		n := int64(i % 11)
		values, code := impl.ValuesOf(f, n)
		wantList(t, fmt.Sprintf("ValuesOf(%v, %d)", f, n), values, code, valuesAsTold(f, n))
	}
	for _, c := range []struct {
		f    impl.Form
		n    int64
		want []int64
	}{
		{impl.Form{1, 0, 1}, 0, []int64{0}}, {impl.Form{1, 0, 1}, 1, []int64{0, 1, 2}}, {impl.Form{1, 0, 1}, 2, []int64{0, 1, 2, 4, 5, 8}},
		{impl.Form{1, 0, -1}, 1, []int64{-1, 0, 1}}, {impl.Form{0, 1, 0}, 1, []int64{-1, 0, 1}}, {impl.Form{-1, 0, 0}, 10, []int64{-100, -81, -64, -49, -36, -25, -16, -9, -4, -1, 0}},
		{impl.Form{1, 1, 1}, 1, []int64{0, 1, 3}}, {impl.Form{mostForm, mostForm, mostForm}, 1, []int64{0, mostForm, 3 * mostForm}},
	} {
		values, code := impl.ValuesOf(c.f, c.n)
		wantList(t, fmt.Sprintf("ValuesOf(%v, %d)", c.f, c.n), values, code, c.want)
	}
	for _, f := range []impl.Form{{2, 1, 3}, {1, 5, -7}, {mostForm, -mostForm, mostForm}, {-mostForm, mostForm, -mostForm}} {
		values, code := impl.ValuesOf(f, 10)
		wantList(t, fmt.Sprintf("ValuesOf(%v, 10)", f), values, code, valuesAsTold(f, 10))
	}
}

func TestValuesOfRefuses(t *testing.T) {
	for _, n := range append(beyond(), -1, -10, 11, 12) {
		values, code := impl.ValuesOf(impl.Form{1, 0, 1}, n)
		wantNoList(t, fmt.Sprintf("ValuesOf for %d", n), values, code, impl.ErrRange)
		for _, bad := range badForms() {
			values, code := impl.ValuesOf(bad, n)
			wantNoList(t, fmt.Sprintf("ValuesOf(%v, %d)", bad, n), values, code, impl.ErrInvalid)
		}
	}
	for _, bad := range badForms() {
		values, code := impl.ValuesOf(bad, 1)
		wantNoList(t, fmt.Sprintf("ValuesOf(%v, 1)", bad), values, code, impl.ErrInvalid)
	}
}

func TestDiscriminantOfRefuses(t *testing.T) {
	for _, bad := range badForms() {
		d, code := impl.DiscriminantOf(bad)
		wantNoNumber(t, fmt.Sprintf("DiscriminantOf(%v)", bad), d, code, impl.ErrInvalid)
	}
}

func TestListsOfFormsAreNew(t *testing.T) {
	list, _ := impl.FormsOf(-23)
	list[0], list[1] = impl.Form{}, impl.Form{}
	list, code := impl.FormsOf(-23)
	wantForms(t, "FormsOf(-23)", list, code, []impl.Form{{1, 1, 6}, {2, -1, 3}, {2, 1, 3}})
	cycle, _ := impl.CycleOf(impl.Form{1, 2, -2})
	cycle[0], cycle[1] = impl.Form{}, impl.Form{}
	cycle, code = impl.CycleOf(impl.Form{1, 2, -2})
	wantForms(t, "CycleOf(1, 2, -2)", cycle, code, []impl.Form{{1, 2, -2}, {-2, 2, 1}})
}

// TestFormsFromManySides has the functions with goroutines called from several goroutines at once.
func TestFormsFromManySides(t *testing.T) {
	first, _ := impl.FormsOf(impl.MaxDisc)
	firstNumber, _ := impl.ClassNumber(impl.MaxDisc)
	var group sync.WaitGroup
	for range 8 {
		group.Go(func() {
			for range 20 {
				list, code := impl.FormsOf(impl.MaxDisc)
				number, numberCode := impl.ClassNumber(impl.MaxDisc)
				if !slices.Equal(list, first) || code != impl.ErrNone || number != firstNumber || numberCode != impl.ErrNone {
					t.Errorf("FormsOf(%d) = %v, %d, and ClassNumber = %d, %d", impl.MaxDisc, list, code, number, numberCode)
				}
			}
		})
	}
	group.Wait()
}
