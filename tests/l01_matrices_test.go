package tests

import (
	"fmt"
	"math/big"
	"slices"
	"testing"

	"loop.example/g01380/impl"
)

var (
	one = impl.Matrix{1, 0, 0, 1}
	s   = impl.Matrix{0, -1, 1, 0}
	u   = impl.Matrix{1, -1, 1, 0}
	cat = impl.Matrix{2, 1, 1, 1}
)

// exactProduct tells the product without overflow, and whether it is within MaxEntry.
func exactProduct(m, n impl.Matrix) (impl.Matrix, bool) {
	var product impl.Matrix
	within := true
	for i := range product {
		row, column := i/2*2, i%2
		x := new(big.Int).Mul(big.NewInt(m[row]), big.NewInt(n[column]))
		x.Add(x, new(big.Int).Mul(big.NewInt(m[row+1]), big.NewInt(n[column+2])))
		within = within && x.CmpAbs(big.NewInt(most)) <= 0
		product[i] = x.Int64()
	}
	return product, within
}

// powerStepByStep multiplies k times, as the definition tells.
func powerStepByStep(m impl.Matrix, k int64) (impl.Matrix, bool) {
	if k < 0 {
		m, k = impl.Matrix{m[3], -m[1], -m[2], m[0]}, -k
	}
	power := one
	for range k {
		var within bool
		if power, within = exactProduct(power, m); !within {
			return impl.Matrix{}, false
		}
	}
	return power, true
}

func TestErrorCodes(t *testing.T) {
	codes := []int64{impl.ErrNone, impl.ErrInvalid, impl.ErrRange, impl.ErrLimit, impl.ErrNotFound, impl.ErrState, impl.ErrSyntax}
	if !slices.Equal(codes, []int64{0, 1, 2, 3, 4, 5, 6}) {
		t.Errorf("error codes are %v", codes)
	}
	if impl.MaxEntry != 1000000000 {
		t.Errorf("MaxEntry is %d", impl.MaxEntry)
	}
}

func TestIsMatrix(t *testing.T) {
	for _, m := range someMatrices(t, 3) {
		if !impl.IsMatrix(m) {
			t.Errorf("IsMatrix(%v) is false", m)
		}
	}
	for _, m := range badMatrices() {
		if impl.IsMatrix(m) {
			t.Errorf("IsMatrix(%v) is true", m)
		}
	}
}

func TestProductOf(t *testing.T) {
	list := someMatrices(t, 3)
	for _, m := range list {
		for _, n := range list {
			what := fmt.Sprintf("ProductOf(%v, %v)", m, n)
			product, code := impl.ProductOf(m, n)
			if want, within := exactProduct(m, n); within {
				wantMatrix(t, what, product, code, want)
			} else {
				wantNoMatrix(t, what, product, code, impl.ErrLimit)
			}
		}
	}
	m, code := impl.ProductOf(impl.Matrix{1, most - 1, 0, 1}, impl.Matrix{1, 1, 0, 1})
	wantMatrix(t, "product at the limit", m, code, impl.Matrix{1, most, 0, 1})
	m, code = impl.ProductOf(impl.Matrix{1, least, 0, 1}, impl.Matrix{1, -1, 0, 1})
	wantNoMatrix(t, "product beyond the limit", m, code, impl.ErrLimit)
}

func TestProductsDoNotDependOnBrackets(t *testing.T) {
	list := someMatrices(t, 1)
	for _, k := range list {
		for _, m := range list {
			for _, n := range list {
				left, code1 := impl.ProductOf(k, m)
				left, code2 := impl.ProductOf(left, n)
				right, code3 := impl.ProductOf(m, n)
				right, code4 := impl.ProductOf(k, right)
				if code1+code2+code3+code4 == impl.ErrNone && left != right {
					t.Fatalf("(%v %v) %v = %v, but the other way %v", k, m, n, left, right)
				}
			}
		}
	}
}

func TestInversesLeadBack(t *testing.T) {
	for _, m := range someMatrices(t, 3) {
		inverse, code := impl.InverseOf(m)
		wantMatrix(t, fmt.Sprintf("InverseOf(%v)", m), inverse, code, impl.Matrix{m[3], -m[1], -m[2], m[0]})
		again, code := impl.InverseOf(inverse)
		wantMatrix(t, fmt.Sprintf("InverseOf(%v)", inverse), again, code, m)
		product, code := impl.ProductOf(m, inverse)
		wantMatrix(t, fmt.Sprintf("%v times its inverse", m), product, code, one)
		product, code = impl.ProductOf(inverse, m)
		wantMatrix(t, fmt.Sprintf("the inverse times %v", m), product, code, one)
	}
}

func TestPowerOfSmallExponents(t *testing.T) {
	for _, m := range someMatrices(t, 3) {
		for k := int64(-40); k <= 40; k++ {
			what := fmt.Sprintf("PowerOf(%v, %d)", m, k)
			power, code := impl.PowerOf(m, k)
			if want, within := powerStepByStep(m, k); within {
				wantMatrix(t, what, power, code, want)
			} else {
				wantNoMatrix(t, what, power, code, impl.ErrLimit)
			}
		}
	}
}

func TestPowerOfGreatExponents(t *testing.T) {
	for _, c := range []struct {
		m    impl.Matrix
		k    int64
		want impl.Matrix
	}{
		{one, 1000000, one}, {s, 1000000, one}, {s, 999999, impl.Matrix{0, 1, -1, 0}}, {s, -999999, s},
		{u, 999999, impl.Matrix{-1, 0, 0, -1}}, {u, -1000000, impl.Matrix{0, -1, 1, -1}},
		{impl.Matrix{-1, 0, 0, -1}, 999999, impl.Matrix{-1, 0, 0, -1}},
		{impl.Matrix{1, 1000, 0, 1}, 1000000, impl.Matrix{1, most, 0, 1}},
		{impl.Matrix{1, 1000, 0, 1}, -1000000, impl.Matrix{1, least, 0, 1}},
		{impl.Matrix{1, 0, -1000, 1}, 1000000, impl.Matrix{1, 0, least, 1}},
		{impl.Matrix{-1, 1, 0, -1}, 1000000, impl.Matrix{1, -1000000, 0, 1}},
		{impl.Matrix{-1, 1, 0, -1}, 999999, impl.Matrix{-1, 999999, 0, -1}},
		{impl.Matrix{2, -1, 1, 0}, 1000000, impl.Matrix{1000001, -1000000, 1000000, -999999}},
		{cat, 21, impl.Matrix{433494437, 267914296, 267914296, 165580141}},
		{cat, -21, impl.Matrix{165580141, -267914296, -267914296, 433494437}},
		{impl.Matrix{1, most, 0, 1}, 1, impl.Matrix{1, most, 0, 1}},
		{impl.Matrix{1, most, 0, 1}, 0, one},
	} {
		m, code := impl.PowerOf(c.m, c.k)
		wantMatrix(t, fmt.Sprintf("PowerOf(%v, %d)", c.m, c.k), m, code, c.want)
	}
	for _, c := range []struct {
		m    impl.Matrix
		k    int64
		want int64
	}{
		{cat, 22, impl.ErrLimit}, {cat, -22, impl.ErrLimit}, {cat, 1000000, impl.ErrLimit}, {cat, -1000000, impl.ErrLimit},
		{impl.Matrix{1, 1001, 0, 1}, 1000000, impl.ErrLimit}, {impl.Matrix{1, 1001, 0, 1}, -1000000, impl.ErrLimit},
		{impl.Matrix{1, most, 0, 1}, 2, impl.ErrLimit},
		{one, 1000001, impl.ErrRange}, {one, -1000001, impl.ErrRange}, {cat, 1000001, impl.ErrRange},
		{one, 1<<63 - 1, impl.ErrRange}, {one, -1 << 63, impl.ErrRange},
		{impl.Matrix{}, 1000001, impl.ErrInvalid}, {impl.Matrix{}, 0, impl.ErrInvalid},
	} {
		m, code := impl.PowerOf(c.m, c.k)
		wantNoMatrix(t, fmt.Sprintf("PowerOf(%v, %d)", c.m, c.k), m, code, c.want)
	}
}

func TestTraceKindOrder(t *testing.T) {
	for _, c := range []struct {
		m                  impl.Matrix
		trace, kind, order int64
	}{
		{one, 2, 0, 1}, {impl.Matrix{-1, 0, 0, -1}, -2, 0, 2},
		{s, 0, 1, 4}, {impl.Matrix{0, 1, -1, 0}, 0, 1, 4}, {impl.Matrix{31622, -199990177, 5, -31622}, 0, 1, 4},
		{impl.Matrix{31622, -999919263, 1, -31621}, 1, 1, 6}, {impl.Matrix{-31622, 999919263, -1, 31621}, -1, 1, 3},
		{impl.Matrix{3, -5, 2, -3}, 0, 1, 4}, {u, 1, 1, 6}, {impl.Matrix{0, -1, 1, 1}, 1, 1, 6},
		{impl.Matrix{0, -1, 1, -1}, -1, 1, 3}, {impl.Matrix{-1, 1, -1, 0}, -1, 1, 3},
		{impl.Matrix{1, 1, 0, 1}, 2, 2, 0}, {impl.Matrix{-1, 5, 0, -1}, -2, 2, 0}, {impl.Matrix{1, 0, 1, 1}, 2, 2, 0},
		{impl.Matrix{1, least, 0, 1}, 2, 2, 0}, {impl.Matrix{2, -1, 1, 0}, 2, 2, 0}, {impl.Matrix{-3, 4, -1, 1}, -2, 2, 0},
		{cat, 3, 3, 0}, {impl.Matrix{-2, 1, 1, -1}, -3, 3, 0}, {impl.Matrix{0, -1, 1, most}, most, 3, 0},
		{impl.Matrix{most, most - 1, 1, 1}, most + 1, 3, 0}, {impl.Matrix{least, 1, -1, 0}, least, 3, 0},
	} {
		x, code := impl.TraceOf(c.m)
		wantNumber(t, fmt.Sprintf("TraceOf(%v)", c.m), x, code, c.trace)
		x, code = impl.KindOf(c.m)
		wantNumber(t, fmt.Sprintf("KindOf(%v)", c.m), x, code, c.kind)
		x, code = impl.OrderOf(c.m)
		if c.order == 0 {
			wantNoNumber(t, fmt.Sprintf("OrderOf(%v)", c.m), x, code, impl.ErrNotFound)
		} else {
			wantNumber(t, fmt.Sprintf("OrderOf(%v)", c.m), x, code, c.order)
		}
	}
}

func TestOrderIsTheLeastExponent(t *testing.T) {
	for _, m := range someMatrices(t, 3) {
		order, code := impl.OrderOf(m)
		want := int64(0)
		for k := int64(12); k >= 1; k-- {
			if power, within := powerStepByStep(m, k); within && power == one {
				want = k
			}
		}
		what := fmt.Sprintf("OrderOf(%v)", m)
		if want == 0 {
			wantNoNumber(t, what, order, code, impl.ErrNotFound)
		} else {
			wantNumber(t, what, order, code, want)
		}
	}
}

func TestConjugateBy(t *testing.T) {
	list := someMatrices(t, 2)
	for _, m := range list {
		for _, n := range list {
			what := fmt.Sprintf("ConjugateBy(%v, %v)", m, n)
			conjugate, code := impl.ConjugateBy(m, n)
			first, within := exactProduct(n, m)
			want, alsoWithin := exactProduct(first, impl.Matrix{n[3], -n[1], -n[2], n[0]})
			if !within || !alsoWithin {
				wantNoMatrix(t, what, conjugate, code, impl.ErrLimit)
				continue
			}
			wantMatrix(t, what, conjugate, code, want)
			trace, code := impl.TraceOf(conjugate)
			wantNumber(t, "the trace of "+what, trace, code, m[0]+m[3])
		}
	}
	// The result would be m again, but the first product is beyond the limit.
	m, code := impl.ConjugateBy(impl.Matrix{1, most, 0, 1}, impl.Matrix{1, 1, 0, 1})
	wantNoMatrix(t, "ConjugateBy of T to a power at the limit", m, code, impl.ErrLimit)
}

func TestCommutatorOf(t *testing.T) {
	list := someMatrices(t, 2)
	for _, m := range list {
		for _, n := range list {
			what := fmt.Sprintf("CommutatorOf(%v, %v)", m, n)
			commutator, code := impl.CommutatorOf(m, n)
			want, within := exactProduct(m, n)
			for _, next := range []impl.Matrix{{m[3], -m[1], -m[2], m[0]}, {n[3], -n[1], -n[2], n[0]}} {
				if within {
					want, within = exactProduct(want, next)
				}
			}
			if within {
				wantMatrix(t, what, commutator, code, want)
			} else {
				wantNoMatrix(t, what, commutator, code, impl.ErrLimit)
			}
		}
	}
	// Powers of T leave nothing of each other, but their product is beyond the limit.
	m, code := impl.CommutatorOf(impl.Matrix{1, most, 0, 1}, impl.Matrix{1, 1, 0, 1})
	wantNoMatrix(t, "CommutatorOf beyond the limit", m, code, impl.ErrLimit)
	m, code = impl.CommutatorOf(impl.Matrix{1, most - 1, 0, 1}, impl.Matrix{1, 1, 0, 1})
	wantMatrix(t, "CommutatorOf at the limit", m, code, one)
}

func TestIsFraction(t *testing.T) {
	for _, f := range someFractions() {
		if !impl.IsFraction(f) {
			t.Errorf("IsFraction(%v) is false", f)
		}
	}
	for _, f := range badFractions() {
		if impl.IsFraction(f) {
			t.Errorf("IsFraction(%v) is true", f)
		}
	}
}

func TestFractionOf(t *testing.T) {
	for _, c := range []struct {
		p, q int64
		want impl.Fraction
	}{
		{6, -4, impl.Fraction{-3, 2}}, {-6, -4, impl.Fraction{3, 2}}, {-6, 4, impl.Fraction{-3, 2}}, {6, 4, impl.Fraction{3, 2}},
		{-5, 0, impl.Fraction{1, 0}}, {5, 0, impl.Fraction{1, 0}}, {0, 7, impl.Fraction{0, 1}}, {0, -7, impl.Fraction{0, 1}},
		{most, least, impl.Fraction{-1, 1}}, {least, 0, impl.Fraction{1, 0}}, {0, least, impl.Fraction{0, 1}},
		{most, most - 1, impl.Fraction{most, most - 1}}, {1, least, impl.Fraction{-1, most}}, {12, 18, impl.Fraction{2, 3}},
	} {
		f, code := impl.FractionOf(c.p, c.q)
		wantFraction(t, fmt.Sprintf("FractionOf(%d, %d)", c.p, c.q), f, code, c.want)
	}
	f, code := impl.FractionOf(0, 0)
	wantNoFraction(t, "FractionOf(0, 0)", f, code, impl.ErrState)
	for _, x := range beyond() {
		for _, y := range []int64{0, 1, x} {
			f, code = impl.FractionOf(x, y)
			wantNoFraction(t, fmt.Sprintf("FractionOf(%d, %d)", x, y), f, code, impl.ErrRange)
			f, code = impl.FractionOf(y, x)
			wantNoFraction(t, fmt.Sprintf("FractionOf(%d, %d)", y, x), f, code, impl.ErrRange)
		}
	}
}

func TestCompareFractions(t *testing.T) {
	list := someFractions()
	for i, f := range list {
		for j, g := range list {
			want := int64(0)
			if i < j {
				want = -1
			} else if i > j {
				want = 1
			}
			x, code := impl.CompareFractions(f, g)
			wantNumber(t, fmt.Sprintf("CompareFractions(%v, %v)", f, g), x, code, want)
		}
	}
}

func TestLeadFraction(t *testing.T) {
	for _, c := range []struct {
		m       impl.Matrix
		f, want impl.Fraction
	}{
		{s, impl.Fraction{0, 1}, impl.Fraction{1, 0}}, {s, impl.Fraction{1, 0}, impl.Fraction{0, 1}},
		{s, impl.Fraction{2, 3}, impl.Fraction{-3, 2}}, {s, impl.Fraction{-2, 3}, impl.Fraction{3, 2}},
		{cat, impl.Fraction{-3, 2}, impl.Fraction{4, 1}}, {cat, impl.Fraction{-1, 1}, impl.Fraction{1, 0}},
		{impl.Matrix{-1, 0, 0, -1}, impl.Fraction{-5, 7}, impl.Fraction{-5, 7}},
		{impl.Matrix{-1, 0, 0, -1}, impl.Fraction{1, 0}, impl.Fraction{1, 0}},
		{impl.Matrix{1, most - 1, 0, 1}, impl.Fraction{1, 1}, impl.Fraction{most, 1}},
		{impl.Matrix{1, least, 0, 1}, impl.Fraction{most, 1}, impl.Fraction{0, 1}},
		{impl.Matrix{most, most - 1, 1, 1}, impl.Fraction{-1, 1}, impl.Fraction{1, 0}},
		{impl.Matrix{most - 1, least, 2 - most, most - 1}, impl.Fraction{1, 1}, impl.Fraction{-1, 1}},
	} {
		f, code := impl.LeadFraction(c.m, c.f)
		wantFraction(t, fmt.Sprintf("LeadFraction(%v, %v)", c.m, c.f), f, code, c.want)
	}
	for _, c := range []struct {
		m impl.Matrix
		f impl.Fraction
	}{
		{impl.Matrix{1, most, 0, 1}, impl.Fraction{1, 1}}, {impl.Matrix{1, least, 0, 1}, impl.Fraction{-1, 1}},
		{impl.Matrix{1, 0, most, 1}, impl.Fraction{1, 1}}, {impl.Matrix{1, most, 0, 1}, impl.Fraction{1, 2}},
		{impl.Matrix{most, most - 1, 1, 1}, impl.Fraction{most, most - 1}},
	} {
		f, code := impl.LeadFraction(c.m, c.f)
		wantNoFraction(t, fmt.Sprintf("LeadFraction(%v, %v)", c.m, c.f), f, code, impl.ErrLimit)
	}
}

func TestLeadFractionAndItsWayBack(t *testing.T) {
	for _, m := range someMatrices(t, 3) {
		inverse, _ := impl.InverseOf(m)
		for _, f := range someFractions() {
			led, code := impl.LeadFraction(m, f)
			if code == impl.ErrLimit {
				wantNoFraction(t, "LeadFraction", led, code, impl.ErrLimit)
				continue
			}
			back, code := impl.LeadFraction(inverse, led)
			wantFraction(t, fmt.Sprintf("LeadFraction(%v, %v)", inverse, led), back, code, f)
		}
	}
}

func TestKeptFraction(t *testing.T) {
	for _, c := range []struct {
		m    impl.Matrix
		want impl.Fraction
	}{
		{impl.Matrix{1, 1, 0, 1}, impl.Fraction{1, 0}}, {impl.Matrix{-1, 5, 0, -1}, impl.Fraction{1, 0}},
		{impl.Matrix{1, 0, -1, 1}, impl.Fraction{0, 1}}, {impl.Matrix{-1, 0, 7, -1}, impl.Fraction{0, 1}},
		{impl.Matrix{3, -4, 1, -1}, impl.Fraction{2, 1}}, {impl.Matrix{-1, -1, 4, 3}, impl.Fraction{-1, 2}},
		{impl.Matrix{1 + 6, -4, 9, 1 - 6}, impl.Fraction{2, 3}}, {impl.Matrix{-7, 4, -9, 5}, impl.Fraction{2, 3}},
		{impl.Matrix{most, 1 - most, most - 1, 2 - most}, impl.Fraction{1, 1}},
		{impl.Matrix{2 - most, 1 - most, most - 1, most}, impl.Fraction{-1, 1}},
		{impl.Matrix{1 + 31622, -999950884, 1, 1 - 31622}, impl.Fraction{31622, 1}},
	} {
		f, code := impl.KeptFraction(c.m)
		wantFraction(t, fmt.Sprintf("KeptFraction(%v)", c.m), f, code, c.want)
	}
	for _, m := range someMatrices(t, 3) {
		what := fmt.Sprintf("KeptFraction(%v)", m)
		kept, code := impl.KeptFraction(m)
		trace := m[0] + m[3]
		switch {
		case m == one || m == (impl.Matrix{-1, 0, 0, -1}):
			wantNoFraction(t, what, kept, code, impl.ErrState)
		case trace != 2 && trace != -2:
			wantNoFraction(t, what, kept, code, impl.ErrNotFound)
		default:
			led, ledCode := impl.LeadFraction(m, kept)
			wantFraction(t, what+" led", led, ledCode, kept)
		}
	}
}

func TestRestsOf(t *testing.T) {
	for _, c := range []struct {
		m    impl.Matrix
		n    int64
		want []int64
	}{
		{impl.Matrix{1, -1, -1, 2}, 5, []int64{1, 4, 4, 2}}, {impl.Matrix{1, -1, -1, 2}, 1, []int64{0, 0, 0, 0}},
		{impl.Matrix{-7, 6, -6, 5}, 6, []int64{5, 0, 0, 5}}, {one, 2, []int64{1, 0, 0, 1}},
		{impl.Matrix{1, least, 0, 1}, 999999, []int64{1, 998999, 0, 1}},
		{impl.Matrix{-1, -1, 0, -1}, 1000000, []int64{999999, 999999, 0, 999999}},
		{impl.Matrix{1, 0, most, 1}, 1000000, []int64{1, 0, 0, 1}},
	} {
		list, code := impl.RestsOf(c.m, c.n)
		wantList(t, fmt.Sprintf("RestsOf(%v, %d)", c.m, c.n), list, code, c.want)
	}
	for _, n := range []int64{0, -1, 1000001, -1 << 63, 1<<63 - 1} {
		list, code := impl.RestsOf(one, n)
		wantNoList(t, fmt.Sprintf("RestsOf(1,0,0,1, %d)", n), list, code, impl.ErrRange)
		list, code = impl.RestsOf(impl.Matrix{}, n)
		wantNoList(t, fmt.Sprintf("RestsOf of none, %d", n), list, code, impl.ErrInvalid)
	}
	first, _ := impl.RestsOf(one, 2)
	first[0] = 7
	second, code := impl.RestsOf(one, 2)
	wantList(t, "RestsOf once more", second, code, []int64{1, 0, 0, 1})
}

// countRests counts what the definition of a matrix allows modulo n.
func countRests(n int64) int64 {
	count := int64(0)
	for a := range n {
		for b := range n {
			for c := range n {
				for d := range n {
					if (a*d-b*c-1)%n == 0 {
						count++
					}
				}
			}
		}
	}
	return count
}

func TestCountModulo(t *testing.T) {
	for n := int64(1); n <= 18; n++ {
		x, code := impl.CountModulo(n)
		wantNumber(t, fmt.Sprintf("CountModulo(%d)", n), x, code, countRests(n))
	}
	for _, c := range [][2]int64{{997, 991025976}, {1000, 720000000}, {961, 886580160}, {30, 17280}, {210, 5806080}} {
		x, code := impl.CountModulo(c[0])
		wantNumber(t, fmt.Sprintf("CountModulo(%d)", c[0]), x, code, c[1])
	}
	for _, n := range []int64{0, -1, 1001, -1 << 63, 1<<63 - 1} {
		x, code := impl.CountModulo(n)
		wantNoNumber(t, fmt.Sprintf("CountModulo(%d)", n), x, code, impl.ErrRange)
	}
}

func TestMatricesWithin(t *testing.T) {
	for n := int64(0); n <= 3; n++ {
		var want []impl.Matrix
		width := 2*n + 1
		for i := range width * width * width * width {
			m := impl.Matrix{i/width/width/width - n, i/width/width%width - n, i/width%width - n, i%width - n}
			if m[0]*m[3]-m[1]*m[2] == 1 {
				want = append(want, m)
			}
		}
		list, code := impl.MatricesWithin(n)
		if !slices.Equal(list, want) || code != impl.ErrNone {
			t.Errorf("MatricesWithin(%d) = %v, %d, not %v", n, list, code, want)
		}
	}
	for _, n := range []int64{-1, 4, -1 << 63, 1<<63 - 1} {
		if list, code := impl.MatricesWithin(n); len(list) != 0 || code != impl.ErrRange {
			t.Errorf("MatricesWithin(%d) = %v, %d", n, list, code)
		}
	}
	first, _ := impl.MatricesWithin(1)
	first[0] = impl.Matrix{}
	second, _ := impl.MatricesWithin(1)
	if second[0] != (impl.Matrix{-1, -1, 0, -1}) {
		t.Errorf("MatricesWithin once more begins with %v", second[0])
	}
}

func TestNamedMatrix(t *testing.T) {
	for name, want := range map[string]impl.Matrix{"S": s, "T": {1, 1, 0, 1}, "L": {1, 0, 1, 1}, "U": u, "I": one} {
		m, code := impl.NamedMatrix(name)
		wantMatrix(t, "NamedMatrix of "+name, m, code, want)
	}
	for _, name := range []string{"", "V", "s", "t", "l", "u", "i", "ST", "S ", " S", "-S", "\x00", "1,0,0,1"} {
		m, code := impl.NamedMatrix(name)
		wantNoMatrix(t, fmt.Sprintf("NamedMatrix(%q)", name), m, code, impl.ErrNotFound)
	}
}

func TestMatricesComeBackFromTheirTexts(t *testing.T) {
	for _, m := range someMatrices(t, 3) {
		text, code := impl.MatrixText(m)
		wantText(t, fmt.Sprintf("MatrixText(%v)", m), text, code, fmt.Sprintf("%d,%d,%d,%d", m[0], m[1], m[2], m[3]))
		back, code := impl.ParseMatrix(text)
		wantMatrix(t, fmt.Sprintf("ParseMatrix(%q)", text), back, code, m)
	}
}

func TestFractionsComeBackFromTheirTexts(t *testing.T) {
	for _, f := range someFractions() {
		text, code := impl.FractionText(f)
		wantText(t, fmt.Sprintf("FractionText(%v)", f), text, code, fmt.Sprintf("%d/%d", f[0], f[1]))
		back, code := impl.ParseFraction(text)
		wantFraction(t, fmt.Sprintf("ParseFraction(%q)", text), back, code, f)
	}
}

func TestParseMatrixRefuses(t *testing.T) {
	for _, text := range []string{
		"", " ", ",", ",,,", "-", "-,-,-,-", "1", "1,0", "1,0,0", "1,0,0,", ",0,0,1", "1,,0,1", "1,0,0,1,", "1,0,0,1,0", ",1,0,0,1",
		"+1,0,0,1", "1,+0,0,1", "1,-0,0,1", "1,0,-0,1", "01,0,0,1", "1,00,0,1", "1,0,0,01", "-01,0,0,-1", "--1,0,0,-1", "-1,0,0,1-",
		" 1,0,0,1", "1, 0,0,1", "1,0,0,1 ", "1,0,0,1\n", "1,0 ,0,1", "1;0;0;1", "1/0/0/1", "1.0,0,0,1", "1e0,0,0,1", "0x1,0,0,1",
		"1,1_0,0,1", "1,a,0,1", "\uff11,0,0,1", "1,0,0,1\x00", "[1,0,0,1]", "S", "0,0,0,0", "1,1,1,1", "1,0,0,2", "0,1,1,0",
		"1,1000000001,0,1", "1,0,-1000000001,1", "1,9223372036854775807,0,1", "1,-9223372036854775808,0,1",
		"1,9223372036854775808,0,1", "1,18446744073709551616,0,1", "1,99999999999999999999999999,0,1", "4294967296,-1,1,4294967296",
	} {
		m, code := impl.ParseMatrix(text)
		wantNoMatrix(t, fmt.Sprintf("ParseMatrix(%q)", text), m, code, impl.ErrSyntax)
	}
}

func TestParseFractionRefuses(t *testing.T) {
	for _, text := range []string{
		"", " ", "/", "-", "1", "1/", "/1", "1//1", "1/2/3", "1/2/", "/1/2", "-/1", "1/-", "0/0", "0/2", "0/-1", "-0/1", "2/4", "-6/3",
		"1/-2", "-1/-2", "-1/0", "2/0", "1/-0", "+1/2", "1/+2", "01/2", "1/02", "1/00", "00/1", "--1/2", " 1/2", "1 /2", "1/ 2", "1/2 ",
		"1/2\n", "1,2", "1:2", "1.0/2", "1/2e0", "0x1/2", "1/1_0", "a/b", "\uff11/2", "1/2\x00", "1\\2",
		"1000000001/1", "-1000000001/1", "1/1000000001", "1000000001/0", "9223372036854775808/1", "1/18446744073709551616",
	} {
		f, code := impl.ParseFraction(text)
		wantNoFraction(t, fmt.Sprintf("ParseFraction(%q)", text), f, code, impl.ErrSyntax)
	}
}

// TestWhatIsNoMatrix also pairs what is no matrix with arguments that would give later errors.
func TestWhatIsNoMatrix(t *testing.T) {
	for _, bad := range badMatrices() {
		about := fmt.Sprintf(" of %v", bad)
		for _, good := range []impl.Matrix{one, cat, {1, most, 0, 1}, bad} {
			m, code := impl.ProductOf(bad, good)
			wantNoMatrix(t, "ProductOf"+about, m, code, impl.ErrInvalid)
			m, code = impl.ProductOf(good, bad)
			wantNoMatrix(t, "ProductOf at last"+about, m, code, impl.ErrInvalid)
			m, code = impl.ConjugateBy(bad, good)
			wantNoMatrix(t, "ConjugateBy"+about, m, code, impl.ErrInvalid)
			m, code = impl.ConjugateBy(good, bad)
			wantNoMatrix(t, "ConjugateBy at last"+about, m, code, impl.ErrInvalid)
			m, code = impl.CommutatorOf(bad, good)
			wantNoMatrix(t, "CommutatorOf"+about, m, code, impl.ErrInvalid)
			m, code = impl.CommutatorOf(good, bad)
			wantNoMatrix(t, "CommutatorOf at last"+about, m, code, impl.ErrInvalid)
		}
		m, code := impl.InverseOf(bad)
		wantNoMatrix(t, "InverseOf"+about, m, code, impl.ErrInvalid)
		for _, k := range []int64{0, 1, -1, 1000000, 1000001, -1000001} {
			m, code = impl.PowerOf(bad, k)
			wantNoMatrix(t, "PowerOf"+about, m, code, impl.ErrInvalid)
		}
		x, code := impl.TraceOf(bad)
		wantNoNumber(t, "TraceOf"+about, x, code, impl.ErrInvalid)
		x, code = impl.KindOf(bad)
		wantNoNumber(t, "KindOf"+about, x, code, impl.ErrInvalid)
		x, code = impl.OrderOf(bad)
		wantNoNumber(t, "OrderOf"+about, x, code, impl.ErrInvalid)
		f, code := impl.LeadFraction(bad, impl.Fraction{0, 1})
		wantNoFraction(t, "LeadFraction"+about, f, code, impl.ErrInvalid)
		f, code = impl.KeptFraction(bad)
		wantNoFraction(t, "KeptFraction"+about, f, code, impl.ErrInvalid)
		text, code := impl.MatrixText(bad)
		wantNoText(t, "MatrixText"+about, text, code, impl.ErrInvalid)
		list, code := impl.RestsOf(bad, 5)
		wantNoList(t, "RestsOf"+about, list, code, impl.ErrInvalid)
	}
}

func TestWhatIsNoFraction(t *testing.T) {
	for _, bad := range badFractions() {
		about := fmt.Sprintf(" of %v", bad)
		for _, good := range []impl.Fraction{{0, 1}, {1, 0}, {most, 1}, bad} {
			x, code := impl.CompareFractions(bad, good)
			wantNoNumber(t, "CompareFractions"+about, x, code, impl.ErrInvalid)
			x, code = impl.CompareFractions(good, bad)
			wantNoNumber(t, "CompareFractions at last"+about, x, code, impl.ErrInvalid)
		}
		for _, m := range []impl.Matrix{one, {1, most, 0, 1}, {}} {
			f, code := impl.LeadFraction(m, bad)
			wantNoFraction(t, "LeadFraction"+about, f, code, impl.ErrInvalid)
		}
		text, code := impl.FractionText(bad)
		wantNoText(t, "FractionText"+about, text, code, impl.ErrInvalid)
	}
}
