package tests

import (
	"fmt"
	"math/big"
	"math/rand"
	"slices"
	"strings"
	"testing"

	"loop.example/g01380/impl"
)

var (
	infinity = impl.Fraction{1, 0}
	zero     = impl.Fraction{0, 1}
)

// smallFractions has all fractions with numbers of at most n, infinity behind all others.
func smallFractions(n int64) []impl.Fraction {
	var list []impl.Fraction
	for p := -n; p <= n; p++ {
		for q := int64(0); q <= n; q++ {
			if f := (impl.Fraction{p, q}); impl.IsFraction(f) {
				list = append(list, f)
			}
		}
	}
	slices.SortFunc(list, compareAsTold)
	return list
}

func compareAsTold(f, g impl.Fraction) int {
	switch {
	case f == g:
		return 0
	case f[1] == 0:
		return 1
	case g[1] == 0:
		return -1
	}
	return big.NewRat(f[0], f[1]).Cmp(big.NewRat(g[0], g[1]))
}

// farFractions has fractions with numbers at MaxFar, and seeded ones.
func farFractions() []impl.Fraction {
	const far = impl.MaxFar
	list := []impl.Fraction{
		{far, 1}, {-far, 1}, {1, far}, {-1, far}, {far, far - 1}, {far - 1, far}, {1 - far, far}, {-far, far - 1}, {far, 9999}, {far, 3}, {7, far},
		{6765, 4181}, {4181, 6765}, {-6765, 4181}, {5741, 2378}, {2378, 5741}, {9901, 100}, {100, 9901}, {9999, 100},
	}
	random := rand.New(rand.NewSource(3))
	for len(list) < 300 {
		limit := int64(1) << (1 + random.Intn(14))
		f := impl.Fraction{random.Int63n(min(limit, far) + 1), random.Int63n(min(limit, far)) + 1}
		if random.Intn(2) == 0 {
			f[0] = -f[0]
		}
		if impl.IsFraction(f) {
			list = append(list, f)
		}
	}
	return list
}

// areNear tells neighbours with numbers that cannot overflow.
func areNear(f, g impl.Fraction) bool {
	x := new(big.Int).Mul(big.NewInt(f[0]), big.NewInt(g[1]))
	x.Sub(x, new(big.Int).Mul(big.NewInt(f[1]), big.NewInt(g[0])))
	return x.CmpAbs(big.NewInt(1)) == 0
}

// rowAsTold sorts all fractions from 0/1 to 1/1 with second numbers of at most n.
func rowAsTold(n int64) []impl.Fraction {
	var list []impl.Fraction
	for q := int64(1); q <= n; q++ {
		for p := int64(0); p <= q; p++ {
			if f := (impl.Fraction{p, q}); impl.IsFraction(f) {
				list = append(list, f)
			}
		}
	}
	slices.SortFunc(list, compareAsTold)
	return list
}

// walkAsTold goes down the tree as the document tells. The mediants are in lowest terms.
func walkAsTold(f impl.Fraction) (string, impl.Fraction, impl.Fraction) {
	var path strings.Builder
	left, right := zero, infinity
	for {
		mediant := impl.Fraction{left[0] + right[0], left[1] + right[1]}
		switch compareAsTold(f, mediant) {
		case 0:
			return path.String(), left, right
		case -1:
			path.WriteByte('L')
			right = mediant
		case 1:
			path.WriteByte('R')
			left = mediant
		}
	}
}

// endOfPath goes down the tree letter by letter.
func endOfPath(path string) impl.Fraction {
	left, right := zero, infinity
	mediant := impl.Fraction{1, 1}
	for _, letter := range path {
		if letter == 'L' {
			right = mediant
		} else {
			left = mediant
		}
		mediant = impl.Fraction{left[0] + right[0], left[1] + right[1]}
	}
	return mediant
}

// continuedAsTold takes whole numbers off and turns what is left.
func continuedAsTold(f impl.Fraction) []int64 {
	var list []int64
	x := big.NewRat(f[0], f[1])
	for {
		// The second number of a big.Rat is greater than 0, so Div rounds down.
		whole := new(big.Int).Div(x.Num(), x.Denom())
		list = append(list, whole.Int64())
		if x.Sub(x, new(big.Rat).SetInt(whole)); x.Sign() == 0 {
			return list
		}
		x.Inv(x)
	}
}

// valueOf evaluates a continued fraction from its end on.
func valueOf(list []int64) *big.Rat {
	x := new(big.Rat).SetInt64(list[len(list)-1])
	for i := len(list) - 2; i >= 0; i-- {
		x.Inv(x)
		x.Add(x, new(big.Rat).SetInt64(list[i]))
	}
	return x
}

// convergentsAsTold tells also whether all convergents are within MaxEntry.
func convergentsAsTold(list []int64) ([]impl.Fraction, bool) {
	var convergents []impl.Fraction
	within := true
	for i := range list {
		x := valueOf(list[:i+1])
		limit := big.NewInt(most)
		within = within && x.Num().CmpAbs(limit) <= 0 && x.Denom().CmpAbs(limit) <= 0
		convergents = append(convergents, impl.Fraction{x.Num().Int64(), x.Denom().Int64()})
	}
	return convergents, within
}

// stepsFrom tells the distances of f over the neighbours in the list.
func stepsFrom(f impl.Fraction, list []impl.Fraction) map[impl.Fraction]int64 {
	steps := map[impl.Fraction]int64{f: 0}
	for reached := []impl.Fraction{f}; len(reached) > 0; reached = reached[1:] {
		for _, g := range list {
			if _, met := steps[g]; !met && areNear(reached[0], g) {
				steps[g] = steps[reached[0]] + 1
				reached = append(reached, g)
			}
		}
	}
	return steps
}

// stepsFromInfinity knows that no way to a fraction is shorter than over the two neighbours with
// lesser second numbers. They are those between which it is found from two whole numbers on.
func stepsFromInfinity(f impl.Fraction) int64 {
	if f[1] == 0 {
		return 0
	}
	whole := new(big.Int).Div(big.NewInt(f[0]), big.NewInt(f[1])).Int64()
	if f[1] == 1 {
		return 1
	}
	left, right := impl.Fraction{whole, 1}, impl.Fraction{whole + 1, 1}
	toLeft, toRight := int64(1), int64(1)
	for {
		mediant := impl.Fraction{left[0] + right[0], left[1] + right[1]}
		toMediant := 1 + min(toLeft, toRight)
		switch compareAsTold(f, mediant) {
		case 0:
			return toMediant
		case -1:
			right, toRight = mediant, toMediant
		case 1:
			left, toLeft = mediant, toMediant
		}
	}
}

func TestLimitsOfFractions(t *testing.T) {
	if impl.MaxRow != 20 || impl.MaxPath != 200 || impl.MaxFar != 10000 {
		t.Errorf("MaxRow is %d, MaxPath is %d, MaxFar is %d", impl.MaxRow, impl.MaxPath, impl.MaxFar)
	}
}

func TestAreNeighbours(t *testing.T) {
	list := append(smallFractions(6), someFractions()...)
	for _, f := range list {
		for _, g := range list {
			near, code := impl.AreNeighbours(f, g)
			wantAnswer(t, fmt.Sprintf("AreNeighbours(%v, %v)", f, g), near, code, areNear(f, g))
		}
	}
	for _, c := range []struct {
		f, g impl.Fraction
		want bool
	}{
		{infinity, infinity, false}, {infinity, impl.Fraction{least, 1}, true}, {infinity, impl.Fraction{1, 2}, false}, {zero, infinity, true},
		{impl.Fraction{most, most - 1}, impl.Fraction{most - 1, most - 2}, true}, {impl.Fraction{most, most - 1}, impl.Fraction{most - 1, most}, false},
		{impl.Fraction{least, most - 1}, impl.Fraction{most, most - 1}, false}, {impl.Fraction{1, 2}, impl.Fraction{1, 2}, false},
		{impl.Fraction{-1, 1}, impl.Fraction{1, 1}, false}, {impl.Fraction{-1, 2}, impl.Fraction{0, 1}, true},
	} {
		near, code := impl.AreNeighbours(c.f, c.g)
		wantAnswer(t, fmt.Sprintf("AreNeighbours(%v, %v)", c.f, c.g), near, code, c.want)
	}
}

func TestMediantOf(t *testing.T) {
	list := append(smallFractions(6), someFractions()...)
	for _, f := range list {
		for _, g := range list {
			what := fmt.Sprintf("MediantOf(%v, %v)", f, g)
			mediant, code := impl.MediantOf(f, g)
			p, q := f[0]+g[0], f[1]+g[1]
			divisor := new(big.Int).GCD(nil, nil, new(big.Int).Abs(big.NewInt(p)), big.NewInt(q)).Int64()
			want := impl.Fraction{p / divisor, q / divisor}
			if max(want[0], -want[0], want[1]) > most {
				wantNoFraction(t, what, mediant, code, impl.ErrLimit)
				continue
			}
			wantFraction(t, what, mediant, code, want)
			if between := compareAsTold(f, want) * compareAsTold(want, g); f != g && between != 1 {
				t.Errorf("%s = %v is not between", what, mediant)
			}
		}
	}
}

func TestMediantOfAtTheLimit(t *testing.T) {
	for _, c := range []struct{ f, g, want impl.Fraction }{
		{infinity, infinity, infinity}, {infinity, zero, impl.Fraction{1, 1}}, {zero, zero, zero}, {impl.Fraction{-1, 1}, infinity, zero},
		{impl.Fraction{most - 1, 1}, infinity, impl.Fraction{most, 1}}, {impl.Fraction{1, most - 1}, zero, impl.Fraction{1, most}},
		{impl.Fraction{least, 1}, infinity, impl.Fraction{least + 1, 1}}, {impl.Fraction{least + 1, 2}, impl.Fraction{-1, 1}, impl.Fraction{least, 3}},
		// Common divisors bring these back.
		{impl.Fraction{most, 1}, impl.Fraction{most, 1}, impl.Fraction{most, 1}}, {impl.Fraction{1, most}, impl.Fraction{1, most}, impl.Fraction{1, most}},
		{impl.Fraction{most, 1}, impl.Fraction{2, 1}, impl.Fraction{most/2 + 1, 1}}, {impl.Fraction{most, 1}, impl.Fraction{least, 1}, zero},
	} {
		mediant, code := impl.MediantOf(c.f, c.g)
		wantFraction(t, fmt.Sprintf("MediantOf(%v, %v)", c.f, c.g), mediant, code, c.want)
	}
	for _, c := range [][2]impl.Fraction{
		{{most, 1}, infinity}, {{1, most}, zero}, {{least, 1}, {-1, 2}}, {{least, 1}, {-1, 1}}, {{most, 1}, {1, 1}}, {{1, most}, {2, 1}},
		{{most, most - 1}, {most - 1, most - 2}},
	} {
		for _, pair := range [][2]impl.Fraction{c, {c[1], c[0]}} {
			mediant, code := impl.MediantOf(pair[0], pair[1])
			wantNoFraction(t, fmt.Sprintf("MediantOf(%v, %v)", pair[0], pair[1]), mediant, code, impl.ErrLimit)
		}
	}
}

func TestFareyRow(t *testing.T) {
	for n := int64(1); n <= 20; n++ {
		row, code := impl.FareyRow(n)
		wantFractions(t, fmt.Sprintf("FareyRow(%d)", n), row, code, rowAsTold(n))
		count, code := impl.CountInRow(n)
		wantNumber(t, fmt.Sprintf("CountInRow(%d)", n), count, code, int64(len(row)))
	}
	row, code := impl.FareyRow(1)
	wantFractions(t, "FareyRow(1)", row, code, []impl.Fraction{{0, 1}, {1, 1}})
	for _, n := range append(beyond(), 0, -1, 21, 1000) {
		row, code := impl.FareyRow(n)
		wantNoFractions(t, fmt.Sprintf("FareyRow(%d)", n), row, code, impl.ErrRange)
	}
}

func TestRowsAreChainsOfNeighbours(t *testing.T) {
	for n := int64(1); n <= impl.MaxRow; n++ {
		row, _ := impl.FareyRow(n)
		for i := 1; i < len(row); i++ {
			near, code := impl.AreNeighbours(row[i-1], row[i])
			wantAnswer(t, fmt.Sprintf("AreNeighbours(%v, %v)", row[i-1], row[i]), near, code, true)
			order, code := impl.CompareFractions(row[i-1], row[i])
			wantNumber(t, fmt.Sprintf("CompareFractions(%v, %v)", row[i-1], row[i]), order, code, -1)
			next, code := impl.NextInRow(n, row[i-1])
			wantFraction(t, fmt.Sprintf("NextInRow(%d, %v)", n, row[i-1]), next, code, row[i])
		}
		if len(row) < 2 || row[0] != zero || row[len(row)-1] != (impl.Fraction{1, 1}) {
			t.Errorf("FareyRow(%d) = %v", n, row)
		}
	}
}

func TestCountInRow(t *testing.T) {
	want := int64(1)
	for n := int64(1); n <= 1000; n++ {
		for p := int64(1); p <= n; p++ {
			if impl.IsFraction(impl.Fraction{p, n}) {
				want++
			}
		}
		if n < 100 || n%100 == 0 || n > 998 {
			count, code := impl.CountInRow(n)
			wantNumber(t, fmt.Sprintf("CountInRow(%d)", n), count, code, want)
		}
	}
	for _, n := range append(beyond(), 0, -1, 1001) {
		count, code := impl.CountInRow(n)
		wantNoNumber(t, fmt.Sprintf("CountInRow(%d)", n), count, code, impl.ErrRange)
	}
}

func TestNextInRow(t *testing.T) {
	for _, n := range []int64{1, 2, 7, 21, 60} {
		row := rowAsTold(n)
		for i, f := range row[:len(row)-1] {
			next, code := impl.NextInRow(n, f)
			wantFraction(t, fmt.Sprintf("NextInRow(%d, %v)", n, f), next, code, row[i+1])
		}
	}
	for _, c := range []struct {
		n       int64
		f, want impl.Fraction
	}{
		{1000, zero, impl.Fraction{1, 1000}}, {1000, impl.Fraction{1, 1000}, impl.Fraction{1, 999}}, {999, zero, impl.Fraction{1, 999}},
		{1000, impl.Fraction{999, 1000}, impl.Fraction{1, 1}}, {1000, impl.Fraction{998, 999}, impl.Fraction{999, 1000}},
		{1000, impl.Fraction{1, 2}, impl.Fraction{500, 999}}, {1000, impl.Fraction{499, 999}, impl.Fraction{1, 2}},
	} {
		next, code := impl.NextInRow(c.n, c.f)
		wantFraction(t, fmt.Sprintf("NextInRow(%d, %v)", c.n, c.f), next, code, c.want)
	}
}

func TestNextInRowRefuses(t *testing.T) {
	for _, n := range []int64{1, 2, 20, 21, 1000} {
		next, code := impl.NextInRow(n, impl.Fraction{1, 1})
		wantNoFraction(t, fmt.Sprintf("NextInRow(%d) of 1/1", n), next, code, impl.ErrNotFound)
		for _, f := range []impl.Fraction{
			infinity, {-1, 1}, {-1, 2}, {-1, 1000}, {2, 1}, {3, 2}, {1001, 1000}, {1, 1001}, {1000, 1001}, {most, 1}, {least, 1}, {1, most}, {n, n + 1}, {1, n + 1},
		} {
			next, code := impl.NextInRow(n, f)
			wantNoFraction(t, fmt.Sprintf("NextInRow(%d, %v)", n, f), next, code, impl.ErrRange)
		}
	}
	for _, n := range append(beyond(), 0, -1, 1001) {
		for _, f := range []impl.Fraction{zero, {1, 1}, {1, 2}, infinity, {2, 1}} {
			next, code := impl.NextInRow(n, f)
			wantNoFraction(t, fmt.Sprintf("NextInRow(%d, %v)", n, f), next, code, impl.ErrRange)
		}
		for _, bad := range badFractions() {
			next, code := impl.NextInRow(n, bad)
			wantNoFraction(t, fmt.Sprintf("NextInRow(%d, %v)", n, bad), next, code, impl.ErrInvalid)
		}
	}
}

func wantParents(t *testing.T, f, wantLeft, wantRight impl.Fraction) {
	t.Helper()
	left, right, code := impl.ParentsOf(f)
	if left != wantLeft || right != wantRight || code != impl.ErrNone {
		t.Errorf("ParentsOf(%v) = %v, %v, %d, not %v, %v", f, left, right, code, wantLeft, wantRight)
	}
}

func wantNoParents(t *testing.T, f impl.Fraction, want int64) {
	t.Helper()
	left, right, code := impl.ParentsOf(f)
	wantNoFraction(t, fmt.Sprintf("the lesser one of ParentsOf(%v)", f), left, code, want)
	wantNoFraction(t, fmt.Sprintf("the greater one of ParentsOf(%v)", f), right, code, want)
}

func TestPathsAndParents(t *testing.T) {
	for _, f := range append(smallFractions(40), farFractions()...) {
		if f[0] <= 0 || f[1] == 0 {
			continue
		}
		want, left, right := walkAsTold(f)
		wantParents(t, f, left, right)
		mediant, code := impl.MediantOf(left, right)
		wantFraction(t, fmt.Sprintf("MediantOf(%v, %v)", left, right), mediant, code, f)
		near, code := impl.AreNeighbours(left, right)
		wantAnswer(t, fmt.Sprintf("AreNeighbours(%v, %v)", left, right), near, code, true)
		path, code := impl.PathOf(f)
		what := fmt.Sprintf("PathOf(%v)", f)
		if len(want) > 200 {
			wantNoText(t, what, path, code, impl.ErrLimit)
			continue
		}
		wantText(t, what, path, code, want)
		if len(want) <= 40 {
			back, code := impl.FractionOfPath(path)
			wantFraction(t, fmt.Sprintf("FractionOfPath(%q)", path), back, code, f)
		}
	}
}

func TestPathsAndParentsAtTheLimits(t *testing.T) {
	for _, c := range []struct {
		f    impl.Fraction
		path string
	}{
		{impl.Fraction{1, 1}, ""}, {impl.Fraction{1, 2}, "L"}, {impl.Fraction{2, 1}, "R"}, {impl.Fraction{201, 1}, strings.Repeat("R", 200)},
		{impl.Fraction{1, 201}, strings.Repeat("L", 200)}, {impl.Fraction{201, 200}, "R" + strings.Repeat("L", 199)},
		{impl.Fraction{7651, 51}, strings.Repeat("R", 150) + strings.Repeat("L", 50)},
	} {
		path, code := impl.PathOf(c.f)
		wantText(t, fmt.Sprintf("PathOf(%v)", c.f), path, code, c.path)
	}
	for _, f := range []impl.Fraction{{202, 1}, {1, 202}, {202, 201}, {201, 202}, {10000, 1}, {1, 10000}, {9999, 10000}, {10000, 9999}, {7801, 52}} {
		path, code := impl.PathOf(f)
		wantNoText(t, fmt.Sprintf("PathOf(%v)", f), path, code, impl.ErrLimit)
	}
	wantParents(t, impl.Fraction{1, 1}, zero, infinity)
	wantParents(t, impl.Fraction{10000, 1}, impl.Fraction{9999, 1}, infinity)
	wantParents(t, impl.Fraction{1, 10000}, zero, impl.Fraction{1, 9999})
	for _, f := range []impl.Fraction{{10001, 1}, {1, 10001}, {10001, 10000}, {10000, 10001}, {10946, 6765}, {most, 1}, {1, most}, {most, most - 1}} {
		wantNoParents(t, f, impl.ErrLimit)
		path, code := impl.PathOf(f)
		wantNoText(t, fmt.Sprintf("PathOf(%v)", f), path, code, impl.ErrLimit)
	}
	for _, f := range []impl.Fraction{infinity, zero, {-1, 1}, {-1, 2}, {-3, 2}, {-201, 1}, {-1, 10001}, {-10001, 1}, {least, 1}, {-1, most}} {
		wantNoParents(t, f, impl.ErrState)
		path, code := impl.PathOf(f)
		wantNoText(t, fmt.Sprintf("PathOf(%v)", f), path, code, impl.ErrState)
	}
}

func TestFractionOfPath(t *testing.T) {
	paths := wordsOf("LR", 10)
	random := rand.New(rand.NewSource(4))
	for n := range 41 {
		path := make([]byte, n)
		for i := range path {
			path[i] = "LR"[random.Intn(2)]
		}
		paths = append(paths, string(path), strings.Repeat("L", n), strings.Repeat("R", n))
	}
	paths = append(paths, strings.Repeat("LR", 20), strings.Repeat("RL", 20))
	for _, path := range paths {
		want := endOfPath(path)
		f, code := impl.FractionOfPath(path)
		wantFraction(t, fmt.Sprintf("FractionOfPath(%q)", path), f, code, want)
		if max(want[0], want[1]) <= impl.MaxFar {
			back, code := impl.PathOf(f)
			wantText(t, fmt.Sprintf("PathOf(%v)", f), back, code, path)
		}
	}
	for _, c := range []struct {
		path string
		want impl.Fraction
	}{
		{"", impl.Fraction{1, 1}}, {"LRL", impl.Fraction{3, 5}}, {strings.Repeat("R", 40), impl.Fraction{41, 1}}, {strings.Repeat("L", 40), impl.Fraction{1, 41}},
		{strings.Repeat("RL", 20), impl.Fraction{267914296, 165580141}}, {strings.Repeat("LR", 20), impl.Fraction{165580141, 267914296}},
	} {
		f, code := impl.FractionOfPath(c.path)
		wantFraction(t, fmt.Sprintf("FractionOfPath(%q)", c.path), f, code, c.want)
	}
}

func TestFractionOfPathRefuses(t *testing.T) {
	for _, path := range []string{
		"X", "LX", "XL", "LXR", "l", "r", "T", "S", "t", "RT", "LS", "U", "0", " ", "L ", " R", "LR\n", "L\x00", "\xff", "L\u0301", "\uff2c", "L,R",
		strings.Repeat("L", 41), strings.Repeat("R", 41), strings.Repeat("LR", 20) + "L", strings.Repeat("LR", 20) + "X", strings.Repeat("L", 39) + "T",
		strings.Repeat("LR", 100), strings.Repeat("LR", 101), strings.Repeat("L", 1000),
	} {
		f, code := impl.FractionOfPath(path)
		wantNoFraction(t, fmt.Sprintf("FractionOfPath(%q)", path), f, code, impl.ErrRange)
	}
}

func TestTierOf(t *testing.T) {
	for n := range 8 {
		var want []impl.Fraction
		for _, path := range wordsOf("LR", n) {
			if len(path) == n {
				want = append(want, endOfPath(path))
			}
		}
		slices.SortFunc(want, compareAsTold)
		tier, code := impl.TierOf(int64(n))
		wantFractions(t, fmt.Sprintf("TierOf(%d)", n), tier, code, want)
		if len(tier) != 1<<n {
			t.Errorf("TierOf(%d) has %d fractions", n, len(tier))
		}
		for _, f := range tier {
			path, code := impl.PathOf(f)
			if len(path) != n || code != impl.ErrNone {
				t.Errorf("PathOf(%v) = %q, %d, in the tier %d", f, path, code, n)
			}
		}
	}
	tier, code := impl.TierOf(0)
	wantFractions(t, "TierOf(0)", tier, code, []impl.Fraction{{1, 1}})
	for _, n := range append(beyond(), -1, 8, 20, 64) {
		tier, code := impl.TierOf(n)
		wantNoFractions(t, fmt.Sprintf("TierOf(%d)", n), tier, code, impl.ErrRange)
	}
}

func TestContinuedFractions(t *testing.T) {
	list := append(smallFractions(12), someFractions()...)
	list = append(append(list, farFractions()...), impl.Fraction{701408733, 433494437}, impl.Fraction{-701408733, 433494437}, impl.Fraction{433494437, 701408733})
	for _, f := range list {
		if f[1] == 0 {
			continue
		}
		want := continuedAsTold(f)
		continued, code := impl.ContinuedOf(f)
		wantList(t, fmt.Sprintf("ContinuedOf(%v)", f), continued, code, want)
		back, code := impl.FractionOfContinued(continued)
		wantFraction(t, fmt.Sprintf("FractionOfContinued(%v)", continued), back, code, f)
		convergents, code := impl.ConvergentsOf(f)
		wantConvergents, within := convergentsAsTold(want)
		wantFractions(t, fmt.Sprintf("ConvergentsOf(%v)", f), convergents, code, wantConvergents)
		if !within || len(convergents) == 0 || convergents[len(convergents)-1] != f {
			t.Errorf("the convergents of %v are %v", f, convergents)
		}
	}
	for _, c := range []struct {
		f    impl.Fraction
		want []int64
	}{
		{zero, []int64{0}}, {impl.Fraction{1, 1}, []int64{1}}, {impl.Fraction{-5, 1}, []int64{-5}}, {impl.Fraction{most, 1}, []int64{most}},
		{impl.Fraction{least, 1}, []int64{least}}, {impl.Fraction{-1, 2}, []int64{-1, 2}}, {impl.Fraction{1, 2}, []int64{0, 2}},
		{impl.Fraction{-7, 5}, []int64{-2, 1, 1, 2}}, {impl.Fraction{1, most}, []int64{0, most}}, {impl.Fraction{-1, most}, []int64{-1, 1, most - 1}},
		{impl.Fraction{least, 3}, []int64{-333333334, 1, 2}}, {impl.Fraction{most, most - 1}, []int64{1, most - 1}},
	} {
		continued, code := impl.ContinuedOf(c.f)
		wantList(t, fmt.Sprintf("ContinuedOf(%v)", c.f), continued, code, c.want)
	}
	continued, code := impl.ContinuedOf(infinity)
	wantNoList(t, "ContinuedOf infinity", continued, code, impl.ErrState)
	convergents, code := impl.ConvergentsOf(infinity)
	wantNoFractions(t, "ConvergentsOf infinity", convergents, code, impl.ErrState)
}

// TestConvergentsOf has beginnings of lists that end with 1.
func TestConvergentsOf(t *testing.T) {
	for _, c := range []struct {
		f    impl.Fraction
		want []impl.Fraction
	}{
		{zero, []impl.Fraction{zero}}, {impl.Fraction{-4, 1}, []impl.Fraction{{-4, 1}}}, {impl.Fraction{10, 7}, []impl.Fraction{{1, 1}, {3, 2}, {10, 7}}},
		{impl.Fraction{-7, 5}, []impl.Fraction{{-2, 1}, {-1, 1}, {-3, 2}, {-7, 5}}}, {impl.Fraction{2, 3}, []impl.Fraction{{0, 1}, {1, 1}, {2, 3}}},
		{impl.Fraction{-1, most}, []impl.Fraction{{-1, 1}, {0, 1}, {-1, most}}}, {impl.Fraction{8, 5}, []impl.Fraction{{1, 1}, {2, 1}, {3, 2}, {8, 5}}},
	} {
		convergents, code := impl.ConvergentsOf(c.f)
		wantFractions(t, fmt.Sprintf("ConvergentsOf(%v)", c.f), convergents, code, c.want)
	}
}

func TestFractionOfContinued(t *testing.T) {
	lists := [][]int64{
		{most, 2}, {most / 2, 2}, {0, most}, {1, most}, {-1, most}, {-1, 1, most - 1}, {-1, 1, most}, {-2, 1, most}, {least, 2}, {least, 1, 2}, {least + 1, 2},
		{0, 1, most - 1}, {0, 1, most}, {0, 2, most}, {0, most, 2}, {0, most / 2, 2}, {most, most}, {most, most, most}, {31622, 31622}, {31623, 31623}, {-31623, 31623},
		{499999999, 2}, {500000000, 2}, {-500000000, 2}, {-500000001, 2}, {0, 499999999, 2}, {0, 500000000, 2},
		slices.Repeat([]int64{2}, 60), slices.Repeat([]int64{most}, 60), append(slices.Repeat([]int64{1}, 59), 2),
	}
	for n := 1; n < 60; n++ {
		ones := append(slices.Repeat([]int64{1}, n), 2)
		lists = append(lists, ones, append([]int64{0}, ones[1:]...), append([]int64{-1}, ones[1:]...), append([]int64{-9}, ones[1:]...))
	}
	random := rand.New(rand.NewSource(5))
	for range 3000 {
		list := []int64{random.Int63n(2<<random.Intn(29)) - 1<<random.Intn(29)}
		for range random.Intn(12) {
			list = append(list, 1+random.Int63n(1<<random.Intn(8)))
		}
		if len(list) > 1 {
			list[len(list)-1]++
		}
		lists = append(lists, list)
	}
	beyondLimit := 0
	for _, list := range lists {
		what := fmt.Sprintf("FractionOfContinued(%v)", list)
		f, code := impl.FractionOfContinued(list)
		convergents, within := convergentsAsTold(list)
		if !within {
			wantNoFraction(t, what, f, code, impl.ErrLimit)
			beyondLimit++
			continue
		}
		wantFraction(t, what, f, code, convergents[len(convergents)-1])
		back, code := impl.ContinuedOf(f)
		wantList(t, fmt.Sprintf("ContinuedOf(%v)", f), back, code, list)
	}
	if beyondLimit < 100 || len(lists)-beyondLimit < 100 {
		t.Errorf("%d of %d lists are beyond the limit", beyondLimit, len(lists))
	}
}

func TestFractionOfContinuedRefuses(t *testing.T) {
	lists := [][]int64{
		nil, {}, {3, 1}, {0, 1}, {1, 1}, {-1, 1}, {1, 2, 1}, {1, 0}, {1, 0, 2}, {1, 2, 0}, {1, -1}, {1, -2}, {1, -2, 3}, {0, 0}, {2, 3, -4},
		// The convergents ahead of what is not as told are beyond the limit.
		{most, most, 1}, {most, most, 0}, {most, most, -1, 2}, append(slices.Repeat([]int64{5}, 58), 0, 5), append(slices.Repeat([]int64{5}, 59), 1),
		slices.Repeat([]int64{2}, 61), slices.Repeat([]int64{most}, 61), append(slices.Repeat([]int64{1}, 60), 2), slices.Repeat([]int64{2}, 1000),
	}
	for _, x := range beyond() {
		lists = append(lists, []int64{x}, []int64{x, 2}, []int64{0, x}, []int64{0, x, 2}, []int64{most, most, x})
	}
	for _, list := range lists {
		f, code := impl.FractionOfContinued(list)
		wantNoFraction(t, fmt.Sprintf("FractionOfContinued(%v)", list), f, code, impl.ErrRange)
	}
}

// TestDistanceOf goes over all fractions with numbers of at most 8. No shortest way between those
// with numbers of at most 5 needs greater ones.
func TestDistanceOf(t *testing.T) {
	all, greatest := smallFractions(8), int64(0)
	for _, f := range smallFractions(5) {
		steps := stepsFrom(f, all)
		for _, g := range smallFractions(5) {
			distance, code := impl.DistanceOf(f, g)
			wantNumber(t, fmt.Sprintf("DistanceOf(%v, %v)", f, g), distance, code, steps[g])
			greatest = max(greatest, distance)
		}
	}
	if greatest < 5 {
		t.Errorf("no distance is greater than %d", greatest)
	}
	for _, f := range farFractions() {
		want := stepsFromInfinity(f)
		for _, pair := range [][2]impl.Fraction{{infinity, f}, {f, infinity}} {
			distance, code := impl.DistanceOf(pair[0], pair[1])
			wantNumber(t, fmt.Sprintf("DistanceOf(%v, %v)", pair[0], pair[1]), distance, code, want)
		}
		distance, code := impl.DistanceOf(f, f)
		wantNumber(t, fmt.Sprintf("DistanceOf(%v, %v)", f, f), distance, code, 0)
		if left, right, code := impl.ParentsOf(f); code == impl.ErrNone {
			for _, pair := range [][2]impl.Fraction{{left, f}, {f, right}, {left, right}} {
				distance, code := impl.DistanceOf(pair[0], pair[1])
				wantNumber(t, fmt.Sprintf("DistanceOf(%v, %v)", pair[0], pair[1]), distance, code, 1)
			}
		}
	}
}

func TestDistanceOfAtTheLimit(t *testing.T) {
	for _, c := range []struct {
		f, g impl.Fraction
		want int64
	}{
		{infinity, infinity, 0}, {infinity, impl.Fraction{10000, 1}, 1}, {impl.Fraction{-10000, 1}, impl.Fraction{10000, 1}, 2}, {zero, impl.Fraction{1, 10000}, 1},
		{impl.Fraction{-1, 10000}, impl.Fraction{1, 10000}, 2}, {impl.Fraction{10000, 9999}, impl.Fraction{9999, 10000}, 2},
		{impl.Fraction{-10000, 9999}, impl.Fraction{9999, 10000}, 4}, {impl.Fraction{10000, 1}, impl.Fraction{1, 10000}, 3},
	} {
		distance, code := impl.DistanceOf(c.f, c.g)
		wantNumber(t, fmt.Sprintf("DistanceOf(%v, %v)", c.f, c.g), distance, code, c.want)
	}
	for _, far := range []impl.Fraction{{10001, 1}, {-10001, 1}, {1, 10001}, {-1, 10001}, {10001, 10000}, {10000, 10001}, {-10946, 6765}, {most, 1}, {least, 1}, {1, most}} {
		for _, f := range []impl.Fraction{infinity, zero, {10000, 1}, far} {
			for _, pair := range [][2]impl.Fraction{{far, f}, {f, far}} {
				distance, code := impl.DistanceOf(pair[0], pair[1])
				wantNoNumber(t, fmt.Sprintf("DistanceOf(%v, %v)", pair[0], pair[1]), distance, code, impl.ErrLimit)
			}
		}
	}
}

func TestMatrixOfNeighbours(t *testing.T) {
	list := append(smallFractions(6), someFractions()...)
	for _, f := range list {
		for _, g := range list {
			what := fmt.Sprintf("MatrixOfNeighbours(%v, %v)", f, g)
			m, code := impl.MatrixOfNeighbours(f, g)
			if !areNear(f, g) {
				wantNoMatrix(t, what, m, code, impl.ErrState)
				continue
			}
			if !impl.IsMatrix(m) || m[0] != f[0] || m[2] != f[1] || code != impl.ErrNone {
				t.Errorf("%s = %v, %d", what, m, code)
			}
			if column := (impl.Fraction{m[1], m[3]}); column != g && column != (impl.Fraction{-g[0], -g[1]}) {
				t.Errorf("%s = %v", what, m)
			}
			led, code := impl.LeadFraction(m, infinity)
			wantFraction(t, what+" leads infinity", led, code, f)
			led, code = impl.LeadFraction(m, zero)
			wantFraction(t, what+" leads 0/1", led, code, g)
		}
	}
	for _, c := range []struct {
		f, g impl.Fraction
		want impl.Matrix
	}{
		{infinity, zero, one}, {zero, infinity, s}, {impl.Fraction{1, 2}, impl.Fraction{2, 3}, impl.Matrix{1, -2, 2, -3}},
		{impl.Fraction{2, 3}, impl.Fraction{1, 2}, impl.Matrix{2, 1, 3, 2}}, {infinity, impl.Fraction{least, 1}, impl.Matrix{1, least, 0, 1}},
		{impl.Fraction{least, 1}, infinity, impl.Matrix{least, -1, 1, 0}},
	} {
		m, code := impl.MatrixOfNeighbours(c.f, c.g)
		wantMatrix(t, fmt.Sprintf("MatrixOfNeighbours(%v, %v)", c.f, c.g), m, code, c.want)
	}
}

func TestMatricesKeepNeighboursAndDistances(t *testing.T) {
	list, kept := smallFractions(4), 0
	matrices := append(wordMatrices()[:100], someMatrices(t, 1)...)
	matrices = append(matrices, impl.Matrix{144, 89, 55, 34}, impl.Matrix{1, 2000, 0, 1}, impl.Matrix{-99, 100, -100, 101})
	for _, m := range matrices {
		for _, f := range list {
			for _, g := range list {
				ledF, codeF := impl.LeadFraction(m, f)
				ledG, codeG := impl.LeadFraction(m, g)
				if codeF != impl.ErrNone || codeG != impl.ErrNone {
					continue
				}
				near, code := impl.AreNeighbours(ledF, ledG)
				wantAnswer(t, fmt.Sprintf("AreNeighbours(%v, %v)", ledF, ledG), near, code, areNear(f, g))
				distance, code := impl.DistanceOf(ledF, ledG)
				if code == impl.ErrLimit {
					continue
				}
				kept++
				want, _ := impl.DistanceOf(f, g)
				wantNumber(t, fmt.Sprintf("DistanceOf(%v, %v)", ledF, ledG), distance, code, want)
			}
		}
	}
	if kept < 1000 {
		t.Errorf("there are only %d distances", kept)
	}
}

// TestWhatIsNoFractionOfTheTree has fractions that would also give the later errors, too.
func TestWhatIsNoFractionOfTheTree(t *testing.T) {
	for _, bad := range append(badFractions(), impl.Fraction{-2, 2}, impl.Fraction{20002, 2}, impl.Fraction{2, 2}, impl.Fraction{404, 2}) {
		about := fmt.Sprintf(" of %v", bad)
		next, code := impl.NextInRow(7, bad)
		wantNoFraction(t, "NextInRow"+about, next, code, impl.ErrInvalid)
		wantNoParents(t, bad, impl.ErrInvalid)
		path, code := impl.PathOf(bad)
		wantNoText(t, "PathOf"+about, path, code, impl.ErrInvalid)
		list, code := impl.ContinuedOf(bad)
		wantNoList(t, "ContinuedOf"+about, list, code, impl.ErrInvalid)
		convergents, code := impl.ConvergentsOf(bad)
		wantNoFractions(t, "ConvergentsOf"+about, convergents, code, impl.ErrInvalid)
		for _, good := range []impl.Fraction{zero, infinity, {1, 2}, {most, 1}, bad} {
			for _, pair := range [][2]impl.Fraction{{bad, good}, {good, bad}} {
				about := fmt.Sprintf(" of %v and %v", pair[0], pair[1])
				near, code := impl.AreNeighbours(pair[0], pair[1])
				wantNoAnswer(t, "AreNeighbours"+about, near, code, impl.ErrInvalid)
				mediant, code := impl.MediantOf(pair[0], pair[1])
				wantNoFraction(t, "MediantOf"+about, mediant, code, impl.ErrInvalid)
				distance, code := impl.DistanceOf(pair[0], pair[1])
				wantNoNumber(t, "DistanceOf"+about, distance, code, impl.ErrInvalid)
				m, code := impl.MatrixOfNeighbours(pair[0], pair[1])
				wantNoMatrix(t, "MatrixOfNeighbours"+about, m, code, impl.ErrInvalid)
			}
		}
	}
}

func TestListsOfFractionsAreLeftAlone(t *testing.T) {
	room := []int64{-2, 1, 1, 2, 7, 7}
	if f, code := impl.FractionOfContinued(room[:4]); f != (impl.Fraction{-7, 5}) || code != impl.ErrNone {
		t.Errorf("FractionOfContinued = %v, %d", f, code)
	}
	if !slices.Equal(room, []int64{-2, 1, 1, 2, 7, 7}) {
		t.Errorf("the list is %v now", room)
	}
	for range 2 {
		row, code := impl.FareyRow(3)
		wantFractions(t, "FareyRow(3)", row, code, []impl.Fraction{{0, 1}, {1, 3}, {1, 2}, {2, 3}, {1, 1}})
		tier, code := impl.TierOf(1)
		wantFractions(t, "TierOf(1)", tier, code, []impl.Fraction{{1, 2}, {2, 1}})
		convergents, code := impl.ConvergentsOf(impl.Fraction{10, 7})
		wantFractions(t, "ConvergentsOf 10/7", convergents, code, []impl.Fraction{{1, 1}, {3, 2}, {10, 7}})
		list, code := impl.ContinuedOf(impl.Fraction{10, 7})
		wantList(t, "ContinuedOf 10/7", list, code, []int64{1, 2, 3})
		clear(row)
		clear(tier)
		clear(convergents)
		clear(list)
	}
}
