package tests

import (
	"fmt"
	"math/big"
	"math/rand"
	"slices"
	"testing"

	"loop.example/g01380/impl"
)

// toldLevel has what the definitions tell of a level.
type toldLevel struct {
	n      int64
	normal map[[2]int64][2]int64
	line   [][]int64
	number map[[2]int64]int64
}

// toldLevelOf goes through all pairs in order, so that the first one of those that are alike is the
// normal one.
func toldLevelOf(n int64) toldLevel {
	l := toldLevel{n, map[[2]int64][2]int64{}, nil, map[[2]int64]int64{}}
	for c := range n {
		for d := range n {
			p := [2]int64{c, d}
			if _, met := l.normal[p]; met || haveCommonDivisor(c, d, n) {
				continue
			}
			for u := int64(1); u <= n; u++ {
				if !haveCommonDivisor(u, n) {
					alike := [2]int64{u * c % n, u * d % n}
					l.normal[alike] = p
					l.number[alike] = int64(len(l.line))
				}
			}
			l.line = append(l.line, []int64{c, d})
		}
	}
	return l
}

// haveCommonDivisor tries all numbers that may divide the last one, which is a level.
func haveCommonDivisor(list ...int64) bool {
	for g := int64(2); g <= list[len(list)-1]; g++ {
		if !slices.ContainsFunc(list, func(x int64) bool { return x%g != 0 }) {
			return true
		}
	}
	return false
}

// restAsTold is never less than 0.
func restAsTold(x, n int64) int64 {
	return new(big.Int).Mod(big.NewInt(x), big.NewInt(n)).Int64()
}

func (l toldLevel) cosetOf(m impl.Matrix) int64 {
	return l.number[[2]int64{restAsTold(m[2], l.n), restAsTold(m[3], l.n)}]
}

// matrixOf finds the coset matrix of the number i by going through all that it may have.
func (l toldLevel) matrixOf(t *testing.T, i int) impl.Matrix {
	t.Helper()
	c, d := l.line[i][0], l.line[i][1]
	if c == 0 {
		return one
	}
	for haveCommonDivisor(d, c) {
		d += l.n
	}
	var list []impl.Matrix
	for a := range c {
		if restAsTold(a*d-1, c) == 0 {
			list = append(list, impl.Matrix{a, (a*d - 1) / c, c, d})
		}
	}
	if len(list) != 1 {
		t.Fatalf("%v has the coset matrices %v for %d", l.line[i], list, l.n)
	}
	return list[0]
}

// cusps puts each coset to the first cusp that has a coset from which a power of T leads to it.
func (l toldLevel) cusps(t *testing.T) [][]int64 {
	t.Helper()
	var list [][]int64
coset:
	for i := range l.line {
		for k := range l.n {
			m, _ := exactProduct(l.matrixOf(t, i), powerOfT(k))
			for j, cusp := range list {
				if slices.Contains(cusp, l.cosetOf(m)) {
					list[j] = append(cusp, int64(i))
					continue coset
				}
			}
		}
		list = append(list, []int64{int64(i)})
	}
	return list
}

// countKept multiplies the coset matrices, as the definition tells.
func (l toldLevel) countKept(t *testing.T, m impl.Matrix) int64 {
	t.Helper()
	count := int64(0)
	for i := range l.line {
		if product, _ := exactProduct(l.matrixOf(t, i), m); l.cosetOf(product) == int64(i) {
			count++
		}
	}
	return count
}

func isMemberAsTold(family, n int64, m impl.Matrix) bool {
	divided := []int64{m[2], m[0] - 1, m[3] - 1, m[1]}
	for _, x := range divided[:[]int{1, 3, 4}[family]] {
		if restAsTold(x, n) != 0 {
			return false
		}
	}
	return true
}

// indexByRests counts all rests that matrices have, and those of the group.
func indexByRests(family, n int64) int64 {
	all, members := int64(0), int64(0)
	for i := range n * n * n * n {
		m := impl.Matrix{i % n, i / n % n, i / n / n % n, i / n / n / n}
		if restAsTold(m[0]*m[3]-m[1]*m[2]-1, n) != 0 {
			continue
		}
		all++
		if isMemberAsTold(family, n, m) {
			members++
		}
	}
	return all / members
}

// indexByCosets walks from the identity with S and T to matrices of other cosets.
func indexByCosets(family, n int64) int64 {
	found := []impl.Matrix{one}
	for i := 0; i < len(found); i++ {
		for _, step := range []impl.Matrix{s, powerOfT(1)} {
			m, _ := exactProduct(found[i], step)
			known := slices.ContainsFunc(found, func(other impl.Matrix) bool {
				return areInOneCoset(family, n, m, other)
			})
			if !known {
				found = append(found, m)
			}
		}
	}
	return int64(len(found))
}

// areInOneCoset needs no limit: the rests of the product are told by those of the factors.
func areInOneCoset(family, n int64, m, other impl.Matrix) bool {
	var rests [2]impl.Matrix
	for i, factor := range []impl.Matrix{m, opposed(other)} {
		for j, x := range factor {
			rests[i][j] = restAsTold(x, n)
		}
	}
	between, _ := exactProduct(rests[0], rests[1])
	return isMemberAsTold(family, n, between)
}

func primesOf(n int64) []int64 {
	var list []int64
	for p := int64(2); p <= n; p++ {
		if n%p == 0 {
			list = append(list, p)
		}
		for n%p == 0 {
			n /= p
		}
	}
	return list
}

// leadingTo returns a matrix that leads infinity to f.
func leadingTo(f impl.Fraction) impl.Matrix {
	// x p + y q = 1
	x, y := new(big.Int), new(big.Int)
	new(big.Int).GCD(x, y, big.NewInt(f[0]), big.NewInt(f[1]))
	return impl.Matrix{f[0], -y.Int64(), f[1], x.Int64()}
}

// someMembers has matrices of the family 0: what leads between matrices of one coset, and what is made
// of powers of T and of the turned ones.
func someMembers(t *testing.T, n int64) []impl.Matrix {
	t.Helper()
	list := []impl.Matrix{one, opposite(one), powerOfT(-3), {1, 0, n, 1}, {1, 0, -2 * n, 1}, {1 - n, n, -n, 1 + n}}
	small := someMatrices(t, 2)
	for i, m := range small {
		for _, other := range small[i+1:] {
			if member, within := exactProducts(m, opposed(other)); within && isMemberAsTold(0, n, member) {
				list = append(list, member)
			}
		}
	}
	return list
}

// cosetMatrices has matrices of many sizes, with numbers less than 0.
func cosetMatrices(t *testing.T) []impl.Matrix {
	t.Helper()
	list := someMatrices(t, 2)
	for i, m := range wordMatrices() {
		if i%8 == 0 {
			list = append(list, m)
		}
	}
	return list
}

func levels() []int64 {
	var list []int64
	for n := int64(1); n <= impl.MaxLevel; n++ {
		list = append(list, n)
	}
	return list
}

func badLevels() []int64 {
	return append(beyond(), 0, -1, -2, -11, -impl.MaxLevel, impl.MaxLevel+1, impl.MaxLevel+2, 100, 1000)
}

func wantMember(t *testing.T, family, n int64, m impl.Matrix, want bool) {
	t.Helper()
	answer, code := impl.IsMember(family, n, m)
	wantAnswer(t, fmt.Sprintf("IsMember(%d, %d, %v)", family, n, m), answer, code, want)
}

func wantNoMember(t *testing.T, family, n int64, m impl.Matrix, want int64) {
	t.Helper()
	answer, code := impl.IsMember(family, n, m)
	wantNoAnswer(t, fmt.Sprintf("IsMember(%d, %d, %v)", family, n, m), answer, code, want)
}

func wantIndex(t *testing.T, family, n, want int64) {
	t.Helper()
	index, code := impl.IndexOf(family, n)
	wantNumber(t, fmt.Sprintf("IndexOf(%d, %d)", family, n), index, code, want)
}

func wantNormal(t *testing.T, n, c, d int64, want [2]int64) {
	t.Helper()
	first, second, code := impl.NormalPair(n, c, d)
	if first != want[0] || second != want[1] || code != impl.ErrNone {
		t.Errorf("NormalPair(%d, %d, %d) = %d, %d, %d, not %v", n, c, d, first, second, code, want)
	}
}

func wantNoNormal(t *testing.T, n, c, d, want int64) {
	t.Helper()
	first, second, code := impl.NormalPair(n, c, d)
	if first != 0 || second != 0 || code != want {
		t.Errorf("NormalPair(%d, %d, %d) = %d, %d, %d, not the error %d", n, c, d, first, second, code, want)
	}
}

func wantLists(t *testing.T, what string, lists [][]int64, code int64, want [][]int64) {
	t.Helper()
	if !slices.EqualFunc(lists, want, slices.Equal[[]int64]) || code != impl.ErrNone {
		t.Errorf("%s = %v, %d, not %v", what, lists, code, want)
	}
}

func wantNoLists(t *testing.T, what string, lists [][]int64, code int64, want int64) {
	t.Helper()
	if len(lists) != 0 || code != want {
		t.Errorf("%s = %v, %d, not the error %d", what, lists, code, want)
	}
}

func wantCoset(t *testing.T, n int64, m impl.Matrix, want int64) {
	t.Helper()
	coset, code := impl.CosetOf(n, m)
	wantNumber(t, fmt.Sprintf("CosetOf(%d, %v)", n, m), coset, code, want)
}

func wantCusp(t *testing.T, n int64, f impl.Fraction, want int64) {
	t.Helper()
	cusp, code := impl.CuspOfFraction(n, f)
	wantNumber(t, fmt.Sprintf("CuspOfFraction(%d, %v)", n, f), cusp, code, want)
}

func wantCountedKept(t *testing.T, n, wantS, wantU int64) {
	t.Helper()
	keptByS, keptByU, code := impl.CountKept(n)
	if keptByS != wantS || keptByU != wantU || code != impl.ErrNone {
		t.Errorf("CountKept(%d) = %d, %d, %d, not %d, %d", n, keptByS, keptByU, code, wantS, wantU)
	}
}

func TestMaxLevel(t *testing.T) {
	if impl.MaxLevel != 60 {
		t.Errorf("MaxLevel is %d", impl.MaxLevel)
	}
}

func TestIsMember(t *testing.T) {
	for _, n := range []int64{1, 2, 3, 4, 5, 6, 12, 35, 1000, 65536, 999999, 1000000} {
		list := append(someMatrices(t, 3), wordMatrices()...)
		// These are in all families, and their products with others are not.
		for _, g := range []impl.Matrix{one, s, u, cat, {-2, 1, -3, 1}} {
			member, _ := conjugated(powerOfT(-n), g)
			list = append(list, member, opposite(member))
			for _, m := range []impl.Matrix{powerOfT(1), {1, 0, 1, 1}, {-3, 2, -2, 1}} {
				product, _ := exactProduct(m, member)
				list = append(list, product)
			}
		}
		for _, m := range list {
			for family := range int64(3) {
				wantMember(t, family, n, m, isMemberAsTold(family, n, m))
			}
		}
	}
}

func TestIsMemberExamples(t *testing.T) {
	for _, c := range []struct {
		n    int64
		m    impl.Matrix
		want [3]bool
	}{
		{1, one, [3]bool{true, true, true}}, {1, s, [3]bool{true, true, true}}, {1, impl.Matrix{-7, 6, -6, 5}, [3]bool{true, true, true}},
		{1, impl.Matrix{0, -1, 1, most}, [3]bool{true, true, true}},
		{2, opposite(one), [3]bool{true, true, true}}, {2, impl.Matrix{-7, 6, -6, 5}, [3]bool{true, true, true}}, {2, powerOfT(-1), [3]bool{true, true, false}},
		{2, s, [3]bool{}}, {2, impl.Matrix{1, 0, -1, 1}, [3]bool{}}, {2, impl.Matrix{-1, 0, -2, -1}, [3]bool{true, true, true}}, {2, impl.Matrix{-3, -1, -2, -1}, [3]bool{true, true, false}},
		{3, opposite(one), [3]bool{true, false, false}}, {5, impl.Matrix{2, 1, 5, 3}, [3]bool{true, false, false}}, {5, impl.Matrix{-4, -1, 5, 1}, [3]bool{true, true, false}},
		{6, impl.Matrix{1, 0, 6, 1}, [3]bool{true, true, true}}, {6, impl.Matrix{1, 0, 3, 1}, [3]bool{}}, {6, impl.Matrix{1, 6, 0, 1}, [3]bool{true, true, true}},
		// b alone does not bring a matrix into the family 2.
		{6, impl.Matrix{5, 6, 4, 5}, [3]bool{}}, {6, impl.Matrix{1, 6, 1, 7}, [3]bool{}}, {6, impl.Matrix{-1, 6, 0, -1}, [3]bool{true, false, false}},
		{1000000, one, [3]bool{true, true, true}}, {1000000, opposite(one), [3]bool{true, false, false}}, {1000000, s, [3]bool{}},
		{1000000, powerOfT(1), [3]bool{true, true, false}}, {1000000, powerOfT(least), [3]bool{true, true, true}},
		{1000000, impl.Matrix{1, 0, least, 1}, [3]bool{true, true, true}}, {1000000, impl.Matrix{1, 0, -999999, 1}, [3]bool{}},
		{1000000, impl.Matrix{-999999, -1, 1000000, 1}, [3]bool{true, true, false}}, {1000000, impl.Matrix{-999999, 1000000, -1000000, 1000001}, [3]bool{true, true, true}},
		{1000000, impl.Matrix{-999999, 999998, 1000000, -999999}, [3]bool{true, true, false}}, {1000000, impl.Matrix{3, 2, 1000000, 666667}, [3]bool{true, false, false}},
	} {
		for family, want := range c.want {
			wantMember(t, int64(family), c.n, c.m, want)
		}
	}
}

func TestIsMemberRefuses(t *testing.T) {
	badNumbers := append(beyond(), 0, -1, -6, 1000001)
	for _, m := range []impl.Matrix{one, s, {1, 0, most, 1}} {
		for _, n := range badNumbers {
			for family := range int64(3) {
				wantNoMember(t, family, n, m, impl.ErrRange)
			}
			wantNoMember(t, 3, n, m, impl.ErrRange)
		}
		for _, family := range append(beyond(), -1, -2, 3, 4) {
			wantNoMember(t, family, 1, m, impl.ErrRange)
			wantNoMember(t, family, 1000000, m, impl.ErrRange)
		}
	}
	for _, bad := range badMatrices() {
		for _, n := range append(badNumbers, 1, 2, 1000000) {
			for _, family := range []int64{-1, 0, 1, 2, 3, 1 << 32} {
				wantNoMember(t, family, n, bad, impl.ErrInvalid)
			}
		}
	}
}

func TestIndexOf(t *testing.T) {
	for n := int64(1); n <= 14; n++ {
		for family := range int64(3) {
			wantIndex(t, family, n, indexByRests(family, n))
		}
	}
	for n := int64(1); n <= 30; n++ {
		wantIndex(t, 0, n, indexByCosets(0, n))
	}
	for n := int64(1); n <= 6; n++ {
		wantIndex(t, 1, n, indexByCosets(1, n))
		wantIndex(t, 2, n, indexByCosets(2, n))
	}
}

func TestIndexOfAllLevels(t *testing.T) {
	for n := int64(1); n <= 1000; n++ {
		want := [3]int64{n, n * n, n * n * n}
		for _, p := range primesOf(n) {
			want[0] = want[0] / p * (p + 1)
			want[1] = want[1] / (p * p) * (p*p - 1)
			want[2] = want[2] / (p * p) * (p*p - 1)
		}
		for family := range int64(3) {
			wantIndex(t, family, n, want[family])
		}
	}
	for _, c := range [][3]int64{
		{0, 1, 1}, {1, 1, 1}, {2, 1, 1}, {0, 2, 3}, {1, 2, 3}, {2, 2, 6}, {0, 3, 4}, {1, 3, 8}, {2, 3, 24}, {0, 4, 6}, {1, 4, 12}, {2, 4, 48},
		{0, 6, 12}, {0, 7, 8}, {1, 7, 48}, {2, 7, 336}, {0, 9, 12}, {0, 30, 72}, {0, 60, 144}, {0, 961, 992}, {0, 997, 998}, {1, 997, 994008},
		{2, 997, 991025976}, {0, 1000, 1800}, {1, 1000, 720000}, {2, 1000, 720000000},
	} {
		wantIndex(t, c[0], c[1], c[2])
	}
}

func TestIndexOfRefuses(t *testing.T) {
	for _, n := range append(beyond(), 0, -1, -6, 1001) {
		for _, family := range []int64{-1, 0, 1, 2, 3} {
			index, code := impl.IndexOf(family, n)
			wantNoNumber(t, fmt.Sprintf("IndexOf(%d, %d)", family, n), index, code, impl.ErrRange)
		}
	}
	for _, family := range append(beyond(), -1, -2, 3, 4) {
		for _, n := range []int64{1, 6, 1000} {
			index, code := impl.IndexOf(family, n)
			wantNoNumber(t, fmt.Sprintf("IndexOf(%d, %d)", family, n), index, code, impl.ErrRange)
		}
	}
}

func TestNormalPair(t *testing.T) {
	random := rand.New(rand.NewSource(6))
	for _, n := range levels() {
		told := toldLevelOf(n)
		for c := range n {
			for d := range n {
				want, isPair := told.normal[[2]int64{c, d}]
				// The same rests, also of numbers less than 0, and of great ones.
				for range 3 {
					far := [2]int64{c + n*(random.Int63n(7)-3), d + n*(random.Int63n(2*(most/n)-1)-most/n+1)}
					if isPair {
						wantNormal(t, n, far[0], far[1], want)
					} else {
						wantNoNormal(t, n, far[0], far[1], impl.ErrState)
					}
				}
			}
		}
	}
}

func TestNormalPairExamples(t *testing.T) {
	for _, c := range []struct {
		n, c, d int64
		want    [2]int64
	}{
		{1, 0, 0, [2]int64{0, 0}}, {1, 5, -7, [2]int64{0, 0}}, {1, most, least, [2]int64{0, 0}}, {2, 0, 1, [2]int64{0, 1}}, {2, -1, -2, [2]int64{1, 0}}, {2, -3, 5, [2]int64{1, 1}},
		{5, 2, 3, [2]int64{1, 4}}, {5, 1, 4, [2]int64{1, 4}}, {5, -2, 2, [2]int64{1, 4}}, {5, 0, 3, [2]int64{0, 1}}, {5, 10, -1, [2]int64{0, 1}}, {5, -3, 0, [2]int64{1, 0}},
		{6, 4, 3, [2]int64{2, 3}}, {6, 4, 5, [2]int64{2, 1}}, {6, 3, 5, [2]int64{3, 1}}, {6, 3, 4, [2]int64{3, 2}}, {8, 6, 7, [2]int64{2, 1}}, {8, 6, 1, [2]int64{2, 3}}, {8, 2, 5, [2]int64{2, 1}},
		{9, 6, 7, [2]int64{3, 2}}, {9, 6, 8, [2]int64{3, 1}}, {59, 58, 1, [2]int64{1, 58}}, {60, 30, 59, [2]int64{30, 1}}, {60, 45, 4, [2]int64{15, 4}}, {60, 45, 8, [2]int64{15, 4}}, {60, 45, 2, [2]int64{15, 2}},
		{7, most, most, [2]int64{1, 1}}, {7, most, 1, [2]int64{1, 6}}, {7, least, 1, [2]int64{1, 1}}, {60, least, 1, [2]int64{20, 1}}, {60, 1, least, [2]int64{1, 20}},
	} {
		wantNormal(t, c.n, c.c, c.d, c.want)
	}
}

func TestNormalPairRefuses(t *testing.T) {
	for _, n := range badLevels() {
		wantNoNormal(t, n, 1, 0, impl.ErrRange)
		// These would be no pair.
		wantNoNormal(t, n, 0, 0, impl.ErrRange)
		wantNoNormal(t, n, most+1, 0, impl.ErrRange)
	}
	for _, x := range beyond() {
		for _, n := range []int64{1, 2, impl.MaxLevel} {
			for _, y := range []int64{0, 1, 2, most, x} {
				wantNoNormal(t, n, x, y, impl.ErrRange)
				wantNoNormal(t, n, y, x, impl.ErrRange)
			}
		}
	}
	for _, c := range [][3]int64{{2, 0, 0}, {2, -2, 4}, {4, 2, 2}, {4, 2, 0}, {6, 3, 3}, {6, -2, 4}, {9, 3, 6}, {11, 11, -22}, {60, 5, 10}, {60, 30, 45}, {60, most, most}, {10, least, 5}} {
		wantNoNormal(t, c[0], c[1], c[2], impl.ErrState)
	}
}

func TestLineOf(t *testing.T) {
	for _, n := range levels() {
		line, code := impl.LineOf(n)
		wantLists(t, fmt.Sprintf("LineOf(%d)", n), line, code, toldLevelOf(n).line)
		wantIndex(t, 0, n, int64(len(line)))
		if !slices.IsSortedFunc(line, slices.Compare[[]int64]) {
			t.Errorf("LineOf(%d) is out of order", n)
		}
	}
	for n, want := range map[int64][][]int64{
		1: {{0, 0}}, 2: {{0, 1}, {1, 0}, {1, 1}}, 3: {{0, 1}, {1, 0}, {1, 1}, {1, 2}}, 4: {{0, 1}, {1, 0}, {1, 1}, {1, 2}, {1, 3}, {2, 1}},
		6: {{0, 1}, {1, 0}, {1, 1}, {1, 2}, {1, 3}, {1, 4}, {1, 5}, {2, 1}, {2, 3}, {2, 5}, {3, 1}, {3, 2}},
		8: {{0, 1}, {1, 0}, {1, 1}, {1, 2}, {1, 3}, {1, 4}, {1, 5}, {1, 6}, {1, 7}, {2, 1}, {2, 3}, {4, 1}},
	} {
		line, code := impl.LineOf(n)
		wantLists(t, fmt.Sprintf("LineOf(%d)", n), line, code, want)
	}
}

func TestCosetOf(t *testing.T) {
	for _, n := range []int64{1, 2, 3, 4, 6, 8, 9, 11, 12, 25, 30, 49, 53, 59, 60} {
		told := toldLevelOf(n)
		for _, m := range cosetMatrices(t) {
			wantCoset(t, n, m, told.cosetOf(m))
		}
	}
}

func TestCosetOfExamples(t *testing.T) {
	// The cosets for 1, 2, 3, 4, 6 and 60.
	levels := []int64{1, 2, 3, 4, 6, 60}
	for word, want := range map[string][]int64{
		"": {0, 0, 0, 0, 0, 0}, "T": {0, 0, 0, 0, 0, 0}, "t": {0, 0, 0, 0, 0, 0}, "S": {0, 1, 1, 1, 1, 1}, "L": {0, 2, 2, 2, 2, 2}, "l": {0, 2, 3, 4, 6, 60}, "U": {0, 1, 1, 1, 1, 1}, "V": {0, 2, 3, 4, 6, 60},
		"SS": {0, 0, 0, 0, 0, 0}, "ST": {0, 2, 2, 2, 2, 2}, "STT": {0, 1, 3, 3, 3, 3}, "TS": {0, 1, 1, 1, 1, 1}, "LL": {0, 0, 3, 5, 7, 61}, "LLL": {0, 2, 0, 4, 10, 76}, "LLLL": {0, 0, 2, 0, 9, 96}, "LLLLLL": {0, 0, 0, 5, 0, 123},
		"LLT": {0, 0, 1, 5, 8, 62}, "Stt": {0, 1, 2, 3, 5, 59}, "LT": {0, 1, 3, 3, 3, 3}, "UU": {0, 2, 3, 4, 6, 60}, "UUU": {0, 0, 0, 0, 0, 0}, "USUS": {0, 0, 0, 0, 0, 0}, "VSVS": {0, 0, 3, 5, 7, 61},
	} {
		m, within := exactWord(word)
		for i, n := range levels {
			wantCoset(t, n, m, want[i])
			wantCoset(t, n, opposite(m), want[i])
		}
		if !within {
			t.Errorf("%q has no matrix", word)
		}
	}
	for _, c := range []struct{ n, want int64 }{{1, 0}, {2, 0}, {3, 3}, {7, 2}, {60, 140}} {
		wantCoset(t, c.n, impl.Matrix{1, 0, least, 1}, c.want)
	}
}

// Two matrices have equal numbers if, and only if, one is the product of a matrix of the group and the
// other one.
func TestCosetsAreThoseOfTheGroup(t *testing.T) {
	matrices := someMatrices(t, 2)
	for _, n := range []int64{1, 2, 3, 4, 6, 9, 12, 25, 30} {
		var cosets []int64
		for _, m := range matrices {
			coset, code := impl.CosetOf(n, m)
			if code != impl.ErrNone {
				t.Errorf("CosetOf(%d, %v) has the error %d", n, m, code)
			}
			cosets = append(cosets, coset)
		}
		for i, m := range matrices {
			for j, other := range matrices {
				if want := areInOneCoset(0, n, m, other); (cosets[i] == cosets[j]) != want {
					t.Errorf("%v and %v have the cosets %d and %d for %d", m, other, cosets[i], cosets[j], n)
				}
			}
		}
	}
}

func TestCosetMatrix(t *testing.T) {
	for _, n := range levels() {
		told := toldLevelOf(n)
		for i := range told.line {
			m, code := impl.CosetMatrix(n, int64(i))
			wantMatrix(t, fmt.Sprintf("CosetMatrix(%d, %d)", n, i), m, code, told.matrixOf(t, i))
		}
	}
	for _, c := range []struct {
		n, i int64
		want impl.Matrix
	}{
		{1, 0, one}, {2, 0, one}, {60, 0, one}, {2, 1, s}, {60, 1, s}, {2, 2, impl.Matrix{0, -1, 1, 1}}, {4, 5, impl.Matrix{1, 0, 2, 1}}, {5, 5, impl.Matrix{0, -1, 1, 4}},
		{6, 8, impl.Matrix{1, 1, 2, 3}}, {6, 10, impl.Matrix{1, 0, 3, 1}}, {6, 11, impl.Matrix{2, 1, 3, 2}}, {12, 21, impl.Matrix{3, 2, 4, 3}}, {12, 23, impl.Matrix{1, 0, 6, 1}}, {59, 59, impl.Matrix{0, -1, 1, 58}},
		{30, 62, impl.Matrix{1, 0, 6, 1}}, {60, 141, impl.Matrix{7, 1, 20, 3}}, {60, 142, impl.Matrix{11, 6, 20, 11}}, {60, 143, impl.Matrix{1, 0, 30, 1}},
	} {
		m, code := impl.CosetMatrix(c.n, c.i)
		wantMatrix(t, fmt.Sprintf("CosetMatrix(%d, %d)", c.n, c.i), m, code, c.want)
	}
}

// Promise 6, but for the widths.
func TestCosetMatricesAreInTheirCosets(t *testing.T) {
	for _, n := range levels() {
		index, _ := impl.IndexOf(0, n)
		for i := range index {
			m, code := impl.CosetMatrix(n, i)
			if code != impl.ErrNone || !impl.IsMatrix(m) {
				t.Errorf("CosetMatrix(%d, %d) = %v, %d", n, i, m, code)
			}
			wantCoset(t, n, m, i)
		}
		for _, i := range []int64{index, index + 1, -1, -index, 1 << 32, -1 << 63, 1<<63 - 1} {
			m, code := impl.CosetMatrix(n, i)
			wantNoMatrix(t, fmt.Sprintf("CosetMatrix(%d, %d)", n, i), m, code, impl.ErrRange)
		}
	}
}

func TestCuspsOf(t *testing.T) {
	for _, n := range levels() {
		cusps, code := impl.CuspsOf(n)
		wantLists(t, fmt.Sprintf("CuspsOf(%d)", n), cusps, code, toldLevelOf(n).cusps(t))
	}
	for n, want := range map[int64][][]int64{
		1: {{0}}, 2: {{0}, {1, 2}}, 3: {{0}, {1, 2, 3}}, 4: {{0}, {1, 2, 3, 4}, {5}}, 5: {{0}, {1, 2, 3, 4, 5}}, 6: {{0}, {1, 2, 3, 4, 5, 6}, {7, 8, 9}, {10, 11}},
		8: {{0}, {1, 2, 3, 4, 5, 6, 7, 8}, {9, 10}, {11}}, 9: {{0}, {1, 2, 3, 4, 5, 6, 7, 8, 9}, {10}, {11}},
	} {
		cusps, code := impl.CuspsOf(n)
		wantLists(t, fmt.Sprintf("CuspsOf(%d)", n), cusps, code, want)
	}
}

// Promise 6, but for the coset matrices.
func TestWidthsAddUpToTheIndex(t *testing.T) {
	for _, n := range levels() {
		cusps, code := impl.CuspsOf(n)
		if code != impl.ErrNone {
			t.Errorf("CuspsOf(%d) has the error %d", n, code)
		}
		all := slices.Concat(cusps...)
		wantIndex(t, 0, n, int64(len(all)))
		slices.Sort(all)
		for i, coset := range all {
			if coset != int64(i) {
				t.Errorf("CuspsOf(%d) has %d where %d should be", n, coset, i)
			}
		}
		count, code := impl.CountCusps(n)
		wantNumber(t, fmt.Sprintf("CountCusps(%d)", n), count, code, int64(len(cusps)))
	}
	for n, want := range map[int64][]int{
		1: {1}, 2: {1, 2}, 4: {1, 4, 1}, 9: {1, 9, 1, 1}, 25: {1, 25, 1, 1, 1, 1}, 49: {1, 49, 1, 1, 1, 1, 1, 1}, 53: {1, 53}, 60: {1, 60, 15, 20, 15, 12, 5, 3, 5, 4, 3, 1},
	} {
		cusps, _ := impl.CuspsOf(n)
		var widths []int
		for _, cusp := range cusps {
			widths = append(widths, len(cusp))
		}
		if !slices.Equal(widths, want) {
			t.Errorf("CuspsOf(%d) has the widths %v, not %v", n, widths, want)
		}
	}
}

func TestCuspOfFraction(t *testing.T) {
	fractions := append(smallFractions(5), someFractions()...)
	for _, n := range levels() {
		told := toldLevelOf(n)
		cusps := told.cusps(t)
		for i, f := range fractions {
			if n > 12 && n < impl.MaxLevel && (int64(i)+n)%7 > 0 {
				continue
			}
			coset := told.cosetOf(leadingTo(f))
			want := slices.IndexFunc(cusps, func(cusp []int64) bool { return slices.Contains(cusp, coset) })
			wantCusp(t, n, f, int64(want))
		}
	}
}

func TestCuspOfFractionExamples(t *testing.T) {
	for _, c := range []struct {
		n    int64
		f    impl.Fraction
		want int64
	}{
		{1, infinity, 0}, {1, zero, 0}, {1, impl.Fraction{-7, 3}, 0}, {2, infinity, 0}, {2, zero, 1}, {60, infinity, 0}, {60, zero, 1}, {2, impl.Fraction{1, 2}, 0}, {2, impl.Fraction{-1, 2}, 0},
		{2, impl.Fraction{-1, 3}, 1}, {4, impl.Fraction{1, 2}, 2}, {4, impl.Fraction{-1, 2}, 2}, {4, impl.Fraction{-1, 4}, 0}, {4, impl.Fraction{-3, 1}, 1}, {6, impl.Fraction{1, 2}, 2}, {6, impl.Fraction{1, 3}, 3},
		{9, impl.Fraction{1, 3}, 2}, {9, impl.Fraction{-1, 3}, 3}, {9, impl.Fraction{2, 3}, 3}, {9, impl.Fraction{-2, 3}, 2}, {9, impl.Fraction{4, 3}, 2}, {9, impl.Fraction{1, 6}, 3}, {9, impl.Fraction{-5, 9}, 0},
		{60, impl.Fraction{-1, 30}, 11}, {60, impl.Fraction{-1, 60}, 0}, {6, impl.Fraction{most, 3}, 3}, {6, impl.Fraction{least, 3}, 3}, {10, impl.Fraction{1, most}, 0}, {10, impl.Fraction{-1, most}, 0},
	} {
		wantCusp(t, c.n, c.f, c.want)
	}
}

// Fractions have the same cusp if, and only if, a matrix of the group leads one to the other.
func TestCuspsAreThoseOfTheGroup(t *testing.T) {
	fractions := smallFractions(4)
	for _, n := range []int64{1, 2, 4, 6, 8, 9, 12, 16, 25, 36} {
		for _, f := range fractions {
			for _, g := range fractions {
				first, _ := impl.CuspOfFraction(n, f)
				second, _ := impl.CuspOfFraction(n, g)
				if want := isLedByGroup(n, f, g); (first == second) != want {
					t.Errorf("%v and %v have the cusps %d and %d for %d", f, g, first, second, n)
				}
			}
		}
	}
}

// isLedByGroup goes through what leads f to infinity, on by a power of T, and then to g. Powers that
// differ by n differ by a matrix of the group.
func isLedByGroup(n int64, f, g impl.Fraction) bool {
	for k := range n {
		m, _ := exactProducts(leadingTo(f), powerOfT(k))
		if areInOneCoset(0, n, m, leadingTo(g)) {
			return true
		}
	}
	return false
}

func TestFractionsLedByTheGroupHaveTheSameCusp(t *testing.T) {
	fractions := append(smallFractions(3), impl.Fraction{-999, 1000}, impl.Fraction{most, 1}, impl.Fraction{1, most}, impl.Fraction{-1, most})
	for _, n := range []int64{1, 2, 3, 4, 6, 9, 11, 30, 49, 60} {
		for i, m := range someMembers(t, n) {
			wantMember(t, 0, n, m, true)
			for j, f := range fractions {
				led, code := impl.LeadFraction(m, f)
				if code != impl.ErrNone || i > 10 && (i+j)%9 > 0 {
					continue
				}
				want, _ := impl.CuspOfFraction(n, f)
				wantCusp(t, n, led, want)
			}
		}
	}
}

func TestCountCusps(t *testing.T) {
	for n := int64(1); n <= 1000; n++ {
		want := int64(1)
		for _, p := range primesOf(n) {
			// A power of p has 1 for each of its ends, and what is between them.
			before, power, odd := int64(1), int64(1), false
			for rest := n; rest%p == 0; rest /= p {
				if odd = !odd; !odd {
					before, power = power, power*p
				}
			}
			if odd {
				want *= 2 * power
			} else {
				want *= power + before
			}
		}
		count, code := impl.CountCusps(n)
		wantNumber(t, fmt.Sprintf("CountCusps(%d)", n), count, code, want)
	}
	for _, c := range [][2]int64{{1, 1}, {2, 2}, {4, 3}, {6, 4}, {8, 4}, {9, 4}, {16, 6}, {25, 6}, {36, 12}, {60, 12}, {961, 32}, {997, 2}, {900, 72}, {1000, 40}} {
		count, code := impl.CountCusps(c[0])
		wantNumber(t, fmt.Sprintf("CountCusps(%d)", c[0]), count, code, c[1])
	}
	for _, n := range append(beyond(), 0, -1, -4, 1001, 1002) {
		count, code := impl.CountCusps(n)
		wantNoNumber(t, fmt.Sprintf("CountCusps(%d)", n), count, code, impl.ErrRange)
	}
}

func TestCountKept(t *testing.T) {
	for _, n := range levels() {
		told := toldLevelOf(n)
		keptByS, keptByU := told.countKept(t, s), told.countKept(t, u)
		wantCountedKept(t, n, keptByS, keptByU)
		// As many are kept as there are roots of x x + 1, and of x x + x + 1, modulo n.
		for x := range n {
			if (x*x+1)%n == 0 {
				keptByS--
			}
			if (x*x+x+1)%n == 0 {
				keptByU--
			}
		}
		if keptByS != 0 || keptByU != 0 {
			t.Errorf("S keeps %d, and U %d more cosets for %d than there are roots", keptByS, keptByU, n)
		}
	}
	for _, c := range [][3]int64{
		{1, 1, 1}, {2, 1, 0}, {3, 0, 1}, {4, 0, 0}, {5, 2, 0}, {7, 0, 2}, {8, 0, 0}, {9, 0, 0}, {10, 2, 0}, {11, 0, 0}, {13, 2, 2}, {21, 0, 2}, {25, 2, 0}, {37, 2, 2}, {49, 0, 2}, {50, 2, 0}, {59, 0, 0}, {60, 0, 0},
	} {
		wantCountedKept(t, c[0], c[1], c[2])
	}
}

func TestGenusOf(t *testing.T) {
	want := []int64{
		0, 0, 0, 0, 0, 0, 0, 0, 0, 0, 1, 0, 0, 1, 1, 0, 1, 0, 1, 1,
		1, 2, 2, 1, 0, 2, 1, 2, 2, 3, 2, 1, 3, 3, 3, 1, 2, 4, 3, 3,
		3, 5, 3, 4, 3, 5, 4, 3, 1, 2, 5, 5, 4, 4, 5, 5, 5, 6, 5, 7,
	}
	for i, n := range levels() {
		genus, code := impl.GenusOf(n)
		wantNumber(t, fmt.Sprintf("GenusOf(%d)", n), genus, code, want[i])
		index, _ := impl.IndexOf(0, n)
		keptByS, keptByU, _ := impl.CountKept(n)
		cusps, _ := impl.CuspsOf(n)
		if 12*genus != 12+index-3*keptByS-4*keptByU-6*int64(len(cusps)) {
			t.Errorf("GenusOf(%d) = %d is not what the other numbers tell", n, genus)
		}
	}
}

// TestBadLevels also has arguments that would be in order for a level.
func TestBadLevels(t *testing.T) {
	for _, n := range badLevels() {
		lists, code := impl.LineOf(n)
		wantNoLists(t, fmt.Sprintf("LineOf(%d)", n), lists, code, impl.ErrRange)
		lists, code = impl.CuspsOf(n)
		wantNoLists(t, fmt.Sprintf("CuspsOf(%d)", n), lists, code, impl.ErrRange)
		for _, m := range []impl.Matrix{one, s, cat, {1, most, 0, 1}} {
			coset, code := impl.CosetOf(n, m)
			wantNoNumber(t, fmt.Sprintf("CosetOf(%d, %v)", n, m), coset, code, impl.ErrRange)
		}
		for _, i := range []int64{-1, 0, 1, n} {
			m, code := impl.CosetMatrix(n, i)
			wantNoMatrix(t, fmt.Sprintf("CosetMatrix(%d, %d)", n, i), m, code, impl.ErrRange)
		}
		for _, f := range []impl.Fraction{infinity, zero, {-1, 2}, {1, most}} {
			cusp, code := impl.CuspOfFraction(n, f)
			wantNoNumber(t, fmt.Sprintf("CuspOfFraction(%d, %v)", n, f), cusp, code, impl.ErrRange)
		}
		keptByS, keptByU, code := impl.CountKept(n)
		if keptByS != 0 || keptByU != 0 || code != impl.ErrRange {
			t.Errorf("CountKept(%d) = %d, %d, %d, not the error %d", n, keptByS, keptByU, code, impl.ErrRange)
		}
		genus, code := impl.GenusOf(n)
		wantNoNumber(t, fmt.Sprintf("GenusOf(%d)", n), genus, code, impl.ErrRange)
	}
}

// TestWhatIsNoMatrixOfCosets also has levels that would give the later error.
func TestWhatIsNoMatrixOfCosets(t *testing.T) {
	for _, n := range append(badLevels(), 1, 2, impl.MaxLevel) {
		for _, bad := range badMatrices() {
			coset, code := impl.CosetOf(n, bad)
			wantNoNumber(t, fmt.Sprintf("CosetOf(%d, %v)", n, bad), coset, code, impl.ErrInvalid)
		}
		for _, bad := range badFractions() {
			cusp, code := impl.CuspOfFraction(n, bad)
			wantNoNumber(t, fmt.Sprintf("CuspOfFraction(%d, %v)", n, bad), cusp, code, impl.ErrInvalid)
		}
	}
}

// TestListsOfLevelsAreNew changes all of a result, and appends to its lists.
func TestListsOfLevelsAreNew(t *testing.T) {
	for name, listsOf := range map[string]func(int64) ([][]int64, int64){"LineOf": impl.LineOf, "CuspsOf": impl.CuspsOf} {
		for _, n := range []int64{2, 6, impl.MaxLevel} {
			first, _ := listsOf(n)
			var want [][]int64
			for _, list := range first {
				want = append(want, slices.Clone(list))
			}
			for _, list := range first {
				_ = append(list, -7)
			}
			wantLists(t, fmt.Sprintf("%s(%d) behind its lists", name, n), first, impl.ErrNone, want)
			for _, list := range first {
				for i := range list {
					list[i] = -7
				}
			}
			again, code := listsOf(n)
			wantLists(t, fmt.Sprintf("%s(%d) once more", name, n), again, code, want)
		}
	}
}
