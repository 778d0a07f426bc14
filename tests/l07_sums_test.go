package tests

import (
	"fmt"
	"math/big"
	"math/rand"
	"slices"
	"strings"
	"testing"

	"loop.example/g01380/impl"
)

const mostSum = impl.MaxSum

func toothAsTold(x *big.Rat) *big.Rat {
	if x.IsInt() {
		return new(big.Rat)
	}
	// The second number is greater than 0, so that this quotient is rounded down.
	floor := new(big.Int).Div(x.Num(), x.Denom())
	less := new(big.Rat).SetInt(floor)
	less.Add(less, big.NewRat(1, 2))
	return less.Sub(x, less)
}

// sumAsTold adds up the saw teeth, as the definition tells.
func sumAsTold(h, k int64) *big.Rat {
	sum := new(big.Rat)
	for i := int64(1); i < k; i++ {
		tooth := toothAsTold(big.NewRat(i, k))
		sum.Add(sum, tooth.Mul(tooth, toothAsTold(big.NewRat(h*i, k))))
	}
	return sum
}

// sumBySteps uses the reciprocity again and again, for numbers that are too great for the definition.
func sumBySteps(h, k int64) *big.Rat {
	h = restAsTold(h, k)
	if h == 0 {
		return new(big.Rat)
	}
	together := big.NewRat(h*h+k*k+1, 12*h*k)
	together.Sub(together, big.NewRat(1, 4))
	return together.Sub(together, sumBySteps(k, h))
}

func fractionOfRat(x *big.Rat) impl.Fraction {
	return impl.Fraction{x.Num().Int64(), x.Denom().Int64()}
}

// opposedFraction turns the sign.
func opposedFraction(f impl.Fraction) impl.Fraction {
	return impl.Fraction{-f[0], f[1]}
}

func signAsTold(x int64) int64 {
	return int64(big.NewInt(x).Sign())
}

func isWithinSum(m impl.Matrix) bool {
	return -mostSum <= m[2] && m[2] <= mostSum
}

// numbersAsTold returns the first and the second number of a matrix with a c within MaxSum.
func numbersAsTold(t *testing.T, m impl.Matrix) (int64, int64) {
	t.Helper()
	a, b, c, d := m[0], m[1], m[2], m[3]
	first := new(big.Rat)
	if c == 0 {
		first.SetFrac64(b, d)
	} else {
		sign := signAsTold(c)
		first.SetFrac64(a+d, c)
		first.Sub(first, new(big.Rat).Mul(big.NewRat(12*sign, 1), sumBySteps(d, sign*c)))
	}
	if !first.IsInt() {
		t.Fatalf("the first number of %v as told is %v", m, first)
	}
	x := first.Num().Int64()
	return x, x - 3*signAsTold(c)*signAsTold(a+d)
}

// unitsAsTold has the numbers of 1..k without a common divisor with k.
func unitsAsTold(k int64) []int64 {
	var list []int64
	for h := int64(1); h <= k; h++ {
		if !haveCommonDivisor(h, k) {
			list = append(list, h)
		}
	}
	return list
}

// matricesForSums has matrices of all kinds, many with c at MaxSum, or beyond it.
func matricesForSums(t *testing.T) []impl.Matrix {
	t.Helper()
	list := append(someMatrices(t, 3), wordMatrices()...)
	for _, k := range []int64{1, 2, 3, 12, 97, 100, mostSum - 1, mostSum, mostSum + 1} {
		for _, d := range []int64{1, -1, 7, -7, k - 1, k + 1, 2*k - 1, 49*k + 11, -most/k*k + 1} {
			inverse := new(big.Int).ModInverse(big.NewInt(d), big.NewInt(k))
			if inverse == nil {
				continue
			}
			a := inverse.Int64()
			m := impl.Matrix{a, (a*d - 1) / k, k, d}
			list = append(list, m, opposite(m), opposed(m), reflected(m))
		}
	}
	for _, m := range list {
		if !impl.IsMatrix(m) {
			t.Fatalf("%v is no matrix", m)
		}
	}
	return list
}

func wantSum(t *testing.T, h, k int64, want impl.Fraction) {
	t.Helper()
	f, code := impl.DedekindSum(h, k)
	wantFraction(t, fmt.Sprintf("DedekindSum(%d, %d)", h, k), f, code, want)
}

func wantNoSum(t *testing.T, h, k, want int64) {
	t.Helper()
	f, code := impl.DedekindSum(h, k)
	wantNoFraction(t, fmt.Sprintf("DedekindSum(%d, %d)", h, k), f, code, want)
}

func wantTooth(t *testing.T, f, want impl.Fraction) {
	t.Helper()
	tooth, code := impl.SawTooth(f)
	wantFraction(t, fmt.Sprintf("SawTooth(%v)", f), tooth, code, want)
}

func wantNoTooth(t *testing.T, f impl.Fraction, want int64) {
	t.Helper()
	tooth, code := impl.SawTooth(f)
	wantNoFraction(t, fmt.Sprintf("SawTooth(%v)", f), tooth, code, want)
}

func wantReciprocity(t *testing.T, h, k int64, want impl.Fraction) {
	t.Helper()
	f, code := impl.ReciprocityOf(h, k)
	wantFraction(t, fmt.Sprintf("ReciprocityOf(%d, %d)", h, k), f, code, want)
}

func wantNoReciprocity(t *testing.T, h, k, want int64) {
	t.Helper()
	f, code := impl.ReciprocityOf(h, k)
	wantNoFraction(t, fmt.Sprintf("ReciprocityOf(%d, %d)", h, k), f, code, want)
}

func wantEqual(t *testing.T, h, k int64, want []int64) {
	t.Helper()
	list, code := impl.EqualTo(h, k)
	wantList(t, fmt.Sprintf("EqualTo(%d, %d)", h, k), list, code, want)
}

func wantNoEqual(t *testing.T, h, k, want int64) {
	t.Helper()
	list, code := impl.EqualTo(h, k)
	wantNoList(t, fmt.Sprintf("EqualTo(%d, %d)", h, k), list, code, want)
}

func wantNumbers(t *testing.T, m impl.Matrix, wantFirst, wantSecond int64) {
	t.Helper()
	first, code := impl.FirstNumber(m)
	wantNumber(t, fmt.Sprintf("FirstNumber(%v)", m), first, code, wantFirst)
	second, code := impl.SecondNumber(m)
	wantNumber(t, fmt.Sprintf("SecondNumber(%v)", m), second, code, wantSecond)
}

func wantNoNumbers(t *testing.T, m impl.Matrix, want int64) {
	t.Helper()
	first, code := impl.FirstNumber(m)
	wantNoNumber(t, fmt.Sprintf("FirstNumber(%v)", m), first, code, want)
	second, code := impl.SecondNumber(m)
	wantNoNumber(t, fmt.Sprintf("SecondNumber(%v)", m), second, code, want)
}

func wantGap(t *testing.T, m, n impl.Matrix, want int64) {
	t.Helper()
	gap, code := impl.ProductGap(m, n)
	wantNumber(t, fmt.Sprintf("ProductGap(%v, %v)", m, n), gap, code, want)
}

func wantNoGap(t *testing.T, m, n impl.Matrix, want int64) {
	t.Helper()
	gap, code := impl.ProductGap(m, n)
	wantNoNumber(t, fmt.Sprintf("ProductGap(%v, %v)", m, n), gap, code, want)
}

func TestMaxSum(t *testing.T) {
	if impl.MaxSum != 20000 {
		t.Errorf("MaxSum is %d", impl.MaxSum)
	}
}

func TestSawTooth(t *testing.T) {
	limit := big.NewInt(most)
	random := rand.New(rand.NewSource(7))
	list := append(smallFractions(12), someFractions()...)
	for range 300 {
		f, code := impl.FractionOf(random.Int63n(2*most+1)-most, 1+random.Int63n(most))
		if code == impl.ErrNone {
			list = append(list, f)
		}
	}
	for _, f := range list {
		if f == infinity {
			wantNoTooth(t, f, impl.ErrState)
			continue
		}
		tooth := toothAsTold(big.NewRat(f[0], f[1]))
		if tooth.Num().CmpAbs(limit) > 0 || tooth.Denom().Cmp(limit) > 0 {
			wantNoTooth(t, f, impl.ErrLimit)
		} else {
			wantTooth(t, f, fractionOfRat(tooth))
		}
	}
}

func TestSawToothExamples(t *testing.T) {
	for _, c := range []struct{ f, want impl.Fraction }{
		{zero, zero}, {impl.Fraction{1, 1}, zero}, {impl.Fraction{-1, 1}, zero}, {impl.Fraction{most, 1}, zero}, {impl.Fraction{least, 1}, zero},
		{impl.Fraction{1, 2}, zero}, {impl.Fraction{-1, 2}, zero}, {impl.Fraction{-7, 2}, zero}, {impl.Fraction{most - 1, 2}, zero},
		{impl.Fraction{1, 3}, impl.Fraction{-1, 6}}, {impl.Fraction{2, 3}, impl.Fraction{1, 6}}, {impl.Fraction{4, 3}, impl.Fraction{-1, 6}}, {impl.Fraction{-1, 3}, impl.Fraction{1, 6}},
		{impl.Fraction{-4, 3}, impl.Fraction{1, 6}}, {impl.Fraction{-5, 3}, impl.Fraction{-1, 6}}, {impl.Fraction{1, 4}, impl.Fraction{-1, 4}}, {impl.Fraction{-1, 4}, impl.Fraction{1, 4}},
		{impl.Fraction{1, 6}, impl.Fraction{-1, 3}}, {impl.Fraction{-11, 10}, impl.Fraction{2, 5}}, {impl.Fraction{least, 3}, impl.Fraction{1, 6}}, {impl.Fraction{most, 7}, impl.Fraction{5, 14}},
		// The second number is doubled, or stays, or is halved.
		{impl.Fraction{1, 499999999}, impl.Fraction{-499999997, 999999998}}, {impl.Fraction{-1, 499999999}, impl.Fraction{499999997, 999999998}},
		{impl.Fraction{1, 500000000}, impl.Fraction{-249999999, 500000000}}, {impl.Fraction{1, most}, impl.Fraction{-499999999, most}}, {impl.Fraction{-1, most}, impl.Fraction{499999999, most}},
		{impl.Fraction{1, 500000002}, impl.Fraction{-125000000, 250000001}}, {impl.Fraction{1, most - 2}, impl.Fraction{-249999999, 499999999}},
	} {
		wantTooth(t, c.f, c.want)
	}
	for _, f := range []impl.Fraction{{1, 500000001}, {-1, 500000001}, {250000000, 500000001}, {1, most - 1}, {-1, most - 1}, {most, most - 1}, {least, most - 1}, {most - 2, most - 1}, {500000000, most - 1}} {
		wantNoTooth(t, f, impl.ErrLimit)
	}
	wantNoTooth(t, infinity, impl.ErrState)
	for _, bad := range badFractions() {
		wantNoTooth(t, bad, impl.ErrInvalid)
	}
}

func TestDedekindSum(t *testing.T) {
	for k := int64(1); k <= 60; k++ {
		for h := -k - 2; h <= 2*k+2; h++ {
			if haveCommonDivisor(h, k) {
				wantNoSum(t, h, k, impl.ErrState)
			} else {
				wantSum(t, h, k, fractionOfRat(sumAsTold(h, k)))
			}
		}
	}
	// The sum of 1 is the greatest one, with the most that is added up on the way.
	for _, k := range []int64{mostSum, mostSum - 1, 19991, 9973, 10007} {
		for _, h := range []int64{1, -1, 7, 141} {
			if !haveCommonDivisor(h, k) {
				wantSum(t, h, k, fractionOfRat(sumAsTold(h, k)))
			}
		}
	}
}

func TestDedekindSumOfGreatNumbers(t *testing.T) {
	random := rand.New(rand.NewSource(71))
	for range 400 {
		h, k := random.Int63n(2*most+1)-most, 1+random.Int63n(mostSum)
		if haveCommonDivisor(h, k) {
			wantNoSum(t, h, k, impl.ErrState)
		} else {
			wantSum(t, h, k, fractionOfRat(sumBySteps(h, k)))
		}
	}
}

func TestDedekindSumExamples(t *testing.T) {
	for _, c := range []struct {
		h, k int64
		want impl.Fraction
	}{
		{1, 1, zero}, {0, 1, zero}, {-1, 1, zero}, {most, 1, zero}, {least, 1, zero}, {1, 2, zero}, {-1, 2, zero}, {7, 2, zero}, {most - 1, 2, zero},
		{1, 3, impl.Fraction{1, 18}}, {2, 3, impl.Fraction{-1, 18}}, {-1, 3, impl.Fraction{-1, 18}}, {-2, 3, impl.Fraction{1, 18}}, {most, 3, impl.Fraction{1, 18}}, {least, 3, impl.Fraction{-1, 18}},
		{1, 4, impl.Fraction{1, 8}}, {3, 4, impl.Fraction{-1, 8}}, {1, 5, impl.Fraction{1, 5}}, {2, 5, zero}, {3, 5, zero}, {4, 5, impl.Fraction{-1, 5}}, {1, 6, impl.Fraction{5, 18}}, {5, 6, impl.Fraction{-5, 18}},
		{1, 7, impl.Fraction{5, 14}}, {2, 7, impl.Fraction{1, 14}}, {3, 7, impl.Fraction{-1, 14}}, {1, 12, impl.Fraction{55, 72}}, {5, 12, impl.Fraction{-1, 72}}, {7, 12, impl.Fraction{1, 72}},
		// (k - 1) (k - 2) / (12 k)
		{1, mostSum, impl.Fraction{66656667, 40000}}, {-1, mostSum, impl.Fraction{-66656667, 40000}}, {mostSum + 1, mostSum, impl.Fraction{66656667, 40000}}, {most - 1, mostSum, impl.Fraction{-66656667, 40000}},
		{least + 1, mostSum, impl.Fraction{66656667, 40000}}, {1, mostSum - 1, impl.Fraction{66650001, 39998}},
	} {
		wantSum(t, c.h, c.k, c.want)
	}
}

func TestDedekindSumRefuses(t *testing.T) {
	for _, k := range append(beyond(), 0, -1, -3, -mostSum, mostSum+1, mostSum+2) {
		for _, h := range []int64{0, 1, 2, most, most + 1} {
			wantNoSum(t, h, k, impl.ErrRange)
		}
	}
	for _, h := range beyond() {
		for _, k := range []int64{1, 2, 3, 101, mostSum} {
			wantNoSum(t, h, k, impl.ErrRange)
		}
	}
	for _, c := range [][2]int64{{0, 2}, {0, mostSum}, {2, 2}, {2, 4}, {-2, 4}, {6, 4}, {-9, 6}, {most, 2}, {least, 5}, {most, mostSum}, {mostSum, mostSum}, {19999, 7}, {7, 19999}} {
		wantNoSum(t, c[0], c[1], impl.ErrState)
	}
}

// Promise 7, but for matrices.
func TestSumsDependOnTheRest(t *testing.T) {
	ks := []int64{97, 100, 101, 144, 999, 1000, 9973, mostSum - 1, mostSum}
	for k := int64(1); k <= 30; k++ {
		ks = append(ks, k)
	}
	for _, k := range ks {
		for i, h := range unitsAsTold(k) {
			if k > 30 && i%(int(k)/10) > 0 {
				continue
			}
			want, code := impl.DedekindSum(h, k)
			wantFraction(t, fmt.Sprintf("DedekindSum(%d, %d)", h, k), want, code, fractionOfRat(sumBySteps(h, k)))
			for _, times := range []int64{1, 2, 7, most/k - 1, -1, -2, -7, -most / k} {
				wantSum(t, h+times*k, k, want)
			}
			wantSum(t, -h, k, opposedFraction(want))
			inverse := new(big.Int).ModInverse(big.NewInt(h), big.NewInt(k))
			wantSum(t, inverse.Int64(), k, want)
		}
	}
}

func TestReciprocityOf(t *testing.T) {
	for h := int64(1); h <= 40; h++ {
		for k := int64(1); k <= 40; k++ {
			if haveCommonDivisor(h, k) {
				wantNoReciprocity(t, h, k, impl.ErrState)
				continue
			}
			together := sumAsTold(h, k)
			wantReciprocity(t, h, k, fractionOfRat(together.Add(together, sumAsTold(k, h))))
		}
	}
	for _, c := range [][2]int64{{1, mostSum}, {mostSum, 1}, {mostSum - 1, mostSum}, {mostSum, 3}, {141, mostSum - 1}, {9973, 10007}} {
		together := sumAsTold(c[0], c[1])
		wantReciprocity(t, c[0], c[1], fractionOfRat(together.Add(together, sumAsTold(c[1], c[0]))))
	}
}

func TestReciprocityOfExamples(t *testing.T) {
	for _, c := range []struct {
		h, k int64
		want impl.Fraction
	}{
		{1, 1, zero}, {1, 2, zero}, {2, 1, zero}, {1, 3, impl.Fraction{1, 18}}, {3, 1, impl.Fraction{1, 18}}, {3, 5, impl.Fraction{-1, 18}}, {5, 3, impl.Fraction{-1, 18}}, {2, 3, impl.Fraction{-1, 18}}, {3, 4, impl.Fraction{-5, 72}},
		{1, mostSum, impl.Fraction{66656667, 40000}}, {mostSum, 1, impl.Fraction{66656667, 40000}}, {mostSum - 1, mostSum, impl.Fraction{-66663333, 799960000}},
		// For the numbers of this fraction no limit is told.
		{19993, 19989, impl.Fraction{-99910015, 1198920231}}, {19997, 19983, impl.Fraction{-199799927, 2397600306}},
	} {
		wantReciprocity(t, c.h, c.k, c.want)
		wantReciprocity(t, c.k, c.h, c.want)
	}
}

func TestReciprocityOfRefuses(t *testing.T) {
	for _, x := range append(beyond(), 0, -1, -2, -mostSum, mostSum+1, mostSum+2, most) {
		for _, y := range []int64{0, 1, 2, 3, mostSum, mostSum + 1, x} {
			wantNoReciprocity(t, x, y, impl.ErrRange)
			wantNoReciprocity(t, y, x, impl.ErrRange)
		}
	}
	for _, c := range [][2]int64{{2, 2}, {3, 3}, {2, 4}, {4, 2}, {9, 6}, {mostSum, mostSum}, {2, mostSum}, {mostSum, 5}, {mostSum - 1, 7}} {
		wantNoReciprocity(t, c[0], c[1], impl.ErrState)
	}
}

func TestSumsOf(t *testing.T) {
	for k := int64(1); k <= 100; k++ {
		var want []impl.Fraction
		for _, h := range unitsAsTold(k) {
			want = append(want, fractionOfRat(sumAsTold(h, k)))
		}
		list, code := impl.SumsOf(k)
		wantFractions(t, fmt.Sprintf("SumsOf(%d)", k), list, code, want)
	}
	for k, want := range map[int64][]impl.Fraction{
		1: {zero}, 2: {zero}, 3: {{1, 18}, {-1, 18}}, 4: {{1, 8}, {-1, 8}}, 5: {{1, 5}, zero, zero, {-1, 5}}, 6: {{5, 18}, {-5, 18}},
		7: {{5, 14}, {1, 14}, {-1, 14}, {1, 14}, {-1, 14}, {-5, 14}}, 12: {{55, 72}, {-1, 72}, {1, 72}, {-55, 72}},
	} {
		list, code := impl.SumsOf(k)
		wantFractions(t, fmt.Sprintf("SumsOf(%d)", k), list, code, want)
	}
	if list, _ := impl.SumsOf(100); len(list) != 40 {
		t.Errorf("SumsOf(100) has %d sums", len(list))
	}
	for _, k := range append(beyond(), 0, -1, -5, 101, 102, mostSum) {
		list, code := impl.SumsOf(k)
		wantNoFractions(t, fmt.Sprintf("SumsOf(%d)", k), list, code, impl.ErrRange)
	}
}

func TestEqualTo(t *testing.T) {
	for k := int64(1); k <= 100; k++ {
		units := unitsAsTold(k)
		alike := map[impl.Fraction][]int64{}
		for _, h := range units {
			f := fractionOfRat(sumAsTold(h, k))
			alike[f] = append(alike[f], h)
		}
		for i, h := range units {
			want := alike[fractionOfRat(sumBySteps(h, k))]
			wantEqual(t, h, k, want)
			// None of these is in 1..k, but all have the rest of h.
			for _, times := range []int64{-1, 1, most/k - 1, -most / k}[i%4:] {
				wantEqual(t, h+times*k, k, want)
			}
			inverse := new(big.Int).ModInverse(big.NewInt(h), big.NewInt(k)).Int64()
			if k > 1 && !slices.Contains(want, inverse) {
				t.Errorf("%d is not among %v for %d and %d", inverse, want, h, k)
			}
		}
	}
}

func TestEqualToExamples(t *testing.T) {
	for _, c := range []struct {
		h, k int64
		want []int64
	}{
		{0, 1, []int64{1}}, {1, 1, []int64{1}}, {least, 1, []int64{1}}, {1, 2, []int64{1}}, {-3, 2, []int64{1}}, {2, 5, []int64{2, 3}}, {3, 5, []int64{2, 3}}, {7, 5, []int64{2, 3}}, {-2, 5, []int64{2, 3}},
		{1, 5, []int64{1}}, {-1, 5, []int64{4}}, {most + 1 - 5, 5, []int64{1}}, {2, 7, []int64{2, 4}}, {9, 7, []int64{2, 4}}, {-2, 7, []int64{3, 5}}, {1, 100, []int64{1}}, {-1, 100, []int64{99}}, {most - 1, 100, []int64{99}},
	} {
		wantEqual(t, c.h, c.k, c.want)
	}
}

func TestEqualToRefuses(t *testing.T) {
	for _, k := range append(beyond(), 0, -1, -5, 101, 102, mostSum) {
		for _, h := range []int64{0, 1, 2, most + 1} {
			wantNoEqual(t, h, k, impl.ErrRange)
		}
	}
	for _, h := range beyond() {
		for _, k := range []int64{1, 2, 3, 100} {
			wantNoEqual(t, h, k, impl.ErrRange)
		}
	}
	for _, c := range [][2]int64{{0, 2}, {0, 100}, {2, 2}, {2, 4}, {-2, 4}, {15, 100}, {most, 2}, {least, 100}, {most, 5}} {
		wantNoEqual(t, c[0], c[1], impl.ErrState)
	}
}

func TestTotalOf(t *testing.T) {
	for k := int64(1); k <= 12; k++ {
		want := new(big.Rat)
		for _, h := range unitsAsTold(k) {
			sum := sumAsTold(h, k)
			want.Add(want, sum.Mul(sum, sum))
		}
		total, code := impl.TotalOf(k)
		wantFraction(t, fmt.Sprintf("TotalOf(%d)", k), total, code, fractionOfRat(want))
	}
	for k, want := range map[int64]impl.Fraction{1: zero, 2: zero, 3: {1, 162}, 4: {1, 32}, 5: {2, 25}, 6: {25, 162}, 7: {27, 98}, 12: {1513, 1296}} {
		total, code := impl.TotalOf(k)
		wantFraction(t, fmt.Sprintf("TotalOf(%d)", k), total, code, want)
	}
	for _, k := range append(beyond(), 0, -1, -5, 13, 14, 100, 101) {
		total, code := impl.TotalOf(k)
		wantNoFraction(t, fmt.Sprintf("TotalOf(%d)", k), total, code, impl.ErrRange)
	}
}

func TestNumbersOfMatrices(t *testing.T) {
	for _, m := range matricesForSums(t) {
		if !isWithinSum(m) {
			wantNoNumbers(t, m, impl.ErrLimit)
			continue
		}
		first, second := numbersAsTold(t, m)
		wantNumbers(t, m, first, second)
	}
}

func TestNumbersOfMatricesExamples(t *testing.T) {
	for _, c := range []struct {
		m             impl.Matrix
		first, second int64
	}{
		{one, 0, 0}, {opposite(one), 0, 0}, {powerOfT(7), 7, 7}, {powerOfT(-7), -7, -7}, {impl.Matrix{-1, 7, 0, -1}, -7, -7}, {impl.Matrix{-1, -7, 0, -1}, 7, 7},
		{powerOfT(most), most, most}, {impl.Matrix{-1, least, 0, -1}, most, most}, {impl.Matrix{-1, most, 0, -1}, least, least},
		{s, 0, 0}, {opposite(s), 0, 0}, {impl.Matrix{2, -1, 5, -2}, 0, 0}, {impl.Matrix{-2, 1, -5, 2}, 0, 0}, {impl.Matrix{2, -5, 1, -2}, 0, 0},
		{u, 1, -2}, {opposite(u), 1, -2}, {v, -1, 2}, {opposite(v), -1, 2}, {impl.Matrix{1, 0, 1, 1}, 2, -1}, {impl.Matrix{1, 0, -1, 1}, -2, 1}, {impl.Matrix{-1, 0, 1, -1}, -2, 1},
		{cat, 3, 0}, {opposite(cat), 3, 0}, {opposed(cat), -3, 0}, {impl.Matrix{3, 2, 1, 1}, 4, 1}, {impl.Matrix{3, 1, 2, 1}, 2, -1}, {impl.Matrix{-3, -1, -2, -1}, 2, -1},
		{impl.Matrix{most, most - 1, 1, 1}, most + 1, most - 2}, {impl.Matrix{0, -1, 1, most}, most, most - 3}, {impl.Matrix{0, 1, -1, least}, most, most - 3},
		// L as often as c tells
		{impl.Matrix{1, 0, mostSum, 1}, 3 - mostSum, -mostSum}, {impl.Matrix{1, 0, -mostSum, 1}, mostSum - 3, mostSum}, {impl.Matrix{-1, 0, mostSum, -1}, mostSum - 3, mostSum}, {impl.Matrix{-1, 0, -mostSum, -1}, 3 - mostSum, -mostSum},
		{impl.Matrix{1, 0, mostSum - 1, 1}, 4 - mostSum, 1 - mostSum},
	} {
		wantNumbers(t, c.m, c.first, c.second)
	}
	for _, m := range []impl.Matrix{
		{1, 0, mostSum + 1, 1}, {1, 0, -mostSum - 1, 1}, {-1, 0, mostSum + 1, -1}, {1, 0, most, 1}, {1, 0, least, 1}, {most - 1, least, 2 - most, most - 1}, {-31622, 31623, 31621, -31622},
	} {
		wantNoNumbers(t, m, impl.ErrLimit)
	}
}

// What is no matrix has the first error, whatever its c is.
func TestNumbersOfWhatIsNoMatrix(t *testing.T) {
	list := append(badMatrices(), impl.Matrix{1, 0, mostSum + 1, 2}, impl.Matrix{1, 1, mostSum, 1}, impl.Matrix{0, 0, mostSum + 1, 0})
	for _, bad := range list {
		wantNoNumbers(t, bad, impl.ErrInvalid)
		for _, m := range append(list, one, cat, impl.Matrix{1, 0, mostSum + 1, 1}, impl.Matrix{1, 0, most, 1}, powerOfT(most)) {
			wantNoGap(t, bad, m, impl.ErrInvalid)
			wantNoGap(t, m, bad, impl.ErrInvalid)
		}
	}
}

// The second number of a word with both letters tells how many more letters T than L there are.
func TestSecondNumbersCountLetters(t *testing.T) {
	for _, word := range append(wordsOf("TL", 9), strings.Repeat("T", 50)+"L", "T"+strings.Repeat("L", 50)) {
		m, within := exactWord(word)
		if !within || !strings.Contains(word, "T") || !strings.Contains(word, "L") {
			continue
		}
		want := int64(strings.Count(word, "T") - strings.Count(word, "L"))
		for _, signed := range []impl.Matrix{m, opposite(m)} {
			wantNumbers(t, signed, want+3, want)
		}
		wantNumbers(t, opposed(m), -want-3, -want)
	}
}

// Promise 7, but for sums.
func TestFirstNumbersOfInverses(t *testing.T) {
	for _, m := range matricesForSums(t) {
		if !isWithinSum(m) {
			continue
		}
		first, code := impl.FirstNumber(m)
		if code != impl.ErrNone {
			t.Errorf("FirstNumber(%v) has the error %d", m, code)
		}
		inverse, _ := impl.InverseOf(m)
		opposite, code := impl.FirstNumber(inverse)
		wantNumber(t, fmt.Sprintf("FirstNumber(%v)", inverse), opposite, code, -first)
	}
}

// Promise 17.
func TestSecondNumbersOfConjugateMatrices(t *testing.T) {
	words, _ := exactWord("TTTLTLL")
	compared := 0
	for _, m := range []impl.Matrix{
		one, opposite(one), s, opposite(s), u, opposite(u), v, powerOfT(1), powerOfT(-5), powerOfT(1000), opposite(powerOfT(3)), {1, 0, 7, 1},
		cat, opposite(cat), opposed(cat), {3, 2, 1, 1}, {-3, -1, -2, -1}, {5, 7, 2, 3}, {12, 5, 7, 3}, {199, 198, 200, 199}, words, opposite(words),
	} {
		_, want := numbersAsTold(t, m)
		for _, n := range conjugatesOf(t, m) {
			second, code := impl.SecondNumber(n)
			if isWithinSum(n) {
				wantNumber(t, fmt.Sprintf("SecondNumber(%v)", n), second, code, want)
				compared++
			} else {
				wantNoNumber(t, fmt.Sprintf("SecondNumber(%v)", n), second, code, impl.ErrLimit)
			}
		}
	}
	if compared < 5000 {
		t.Errorf("only %d second numbers were compared", compared)
	}
}

func TestProductGap(t *testing.T) {
	met := map[int64]int{}
	list := someMatrices(t, 1)
	all := matricesForSums(t)
	for i, m := range all {
		if i%7 == 0 {
			list = append(list, m)
		}
	}
	for i, m := range list {
		for j, n := range list {
			if i > 40 && j > 40 && (i+j)%5 > 0 {
				continue
			}
			product, within := exactProduct(m, n)
			if !within || !isWithinSum(m) || !isWithinSum(n) || !isWithinSum(product) {
				wantNoGap(t, m, n, impl.ErrLimit)
				continue
			}
			want := -3 * signAsTold(m[2]) * signAsTold(n[2]) * signAsTold(product[2])
			wantGap(t, m, n, want)
			met[want]++
		}
	}
	if met[-3] < 100 || met[0] < 100 || met[3] < 100 {
		t.Errorf("the gaps are %v", met)
	}
}

func TestProductGapExamples(t *testing.T) {
	step := func(c int64) impl.Matrix { return impl.Matrix{1, 0, c, 1} }
	for _, c := range []struct {
		m, n impl.Matrix
		want int64
	}{
		{cat, cat, -3}, {cat, opposite(cat), -3}, {opposite(cat), cat, -3}, {cat, opposed(cat), 0}, {one, cat, 0}, {cat, opposite(one), 0}, {one, opposite(one), 0}, {powerOfT(1), step(1), 0}, {s, s, 0}, {s, powerOfT(most), 0},
		{opposed(cat), opposed(cat), 3}, {step(-1), step(-1), 3}, {step(-1), step(2), 3}, {step(2), step(-1), 3}, {step(1), step(1), -3}, {step(1), step(-2), -3}, {u, u, -3}, {v, v, 3}, {s, u, -3}, {u, s, 0},
		{step(mostSum - 1), step(1), -3}, {step(1), step(mostSum - 1), -3}, {step(mostSum), step(-mostSum), 0}, {step(mostSum), step(-1), 3}, {step(-mostSum), powerOfT(7), 0},
	} {
		wantGap(t, c.m, c.n, c.want)
	}
	for _, c := range [][2]impl.Matrix{
		{powerOfT(most), powerOfT(1)}, {powerOfT(least), powerOfT(-1)}, {powerOfT(most), powerOfT(most)}, {step(most), step(most)}, {{most, most - 1, 1, 1}, cat},
		// Only the product has a c beyond MaxSum, or only one of the factors.
		{step(mostSum), step(1)}, {step(1), step(mostSum)}, {step(-mostSum), step(-1)}, {step(10001), step(10000)}, {step(mostSum), step(mostSum)},
		{step(mostSum + 1), step(-1)}, {step(-1), step(mostSum + 1)}, {step(-mostSum - 1), step(1)}, {step(mostSum + 1), step(-mostSum - 1)}, {step(most), step(least)}, {step(mostSum + 1), one}, {one, step(mostSum + 1)},
	} {
		wantNoGap(t, c[0], c[1], impl.ErrLimit)
	}
}

// TestListsOfSumsAreNew changes all of a result, and asks once more.
func TestListsOfSumsAreNew(t *testing.T) {
	for _, k := range []int64{1, 5, 100} {
		sums, _ := impl.SumsOf(k)
		wantSums := slices.Clone(sums)
		for i := range sums {
			sums[i] = impl.Fraction{-7, 9}
		}
		sums, code := impl.SumsOf(k)
		wantFractions(t, fmt.Sprintf("SumsOf(%d) once more", k), sums, code, wantSums)
		equal, _ := impl.EqualTo(3*k+1, k)
		wantEqualOnes := slices.Clone(equal)
		for i := range equal {
			equal[i] = -7
		}
		wantEqual(t, 3*k+1, k, wantEqualOnes)
	}
}
