package tests

import (
	"fmt"
	"math/big"
	"math/rand"
	"slices"
	"testing"

	"loop.example/g01380/impl"
)

const mostMixed = 1000000

func primesOfMixes() []int64 {
	return []int64{5, 7, 11, 101, 10007}
}

func badPrimes() []int64 {
	return append(beyond(), 0, 1, -1, -5, -7, 2, 3, 4, 6, 8, 9, 10, 12, 13, 25, 35, 55, 97, 100, 102, 103, 1009, 10006, 10008, 10009)
}

// longLevels has the levels whose lines have more than MaxSymbols pairs.
func longLevels() []int64 {
	return []int64{42, 48, 50, 52, 54, 56, 57, 58, 60}
}

func shortLevels() []int64 {
	return slices.DeleteFunc(levels(), func(n int64) bool { return slices.Contains(longLevels(), n) })
}

// someLevels has small ones, primes, products, squares, and those of the most pairs.
func someLevels() []int64 {
	return []int64{1, 2, 3, 4, 5, 6, 7, 9, 10, 11, 13, 16, 25, 37, 30, 55, 59}
}

// chainAsConvergents has infinity ahead of the convergents.
func chainAsConvergents(f impl.Fraction) []impl.Fraction {
	if f == infinity {
		return []impl.Fraction{infinity}
	}
	list, _ := convergentsAsTold(continuedAsTold(f))
	return slices.Insert(list, 0, infinity)
}

// mixOfFraction takes the matrices as the document tells them.
func (l toldLevel) mixOfFraction(t *testing.T, f impl.Fraction) []int64 {
	t.Helper()
	mix := make([]int64, len(l.line))
	chain := chainAsConvergents(f)
	sign := int64(-1)
	for i := 1; i < len(chain); i++ {
		m := impl.Matrix{sign * chain[i][0], chain[i-1][0], sign * chain[i][1], chain[i-1][1]}
		if !impl.IsMatrix(m) {
			t.Fatalf("%v has %v, which is no matrix", f, m)
		}
		mix[l.cosetOf(m)]++
		sign = -sign
	}
	return mix
}

// ledBy multiplies the coset matrices by m.
func (l toldLevel) ledBy(t *testing.T, m impl.Matrix) []int64 {
	t.Helper()
	var list []int64
	for i := range l.line {
		product, _ := exactProduct(l.matrixOf(t, i), m)
		list = append(list, l.cosetOf(product))
	}
	return list
}

func (l toldLevel) relations(t *testing.T) [][]int64 {
	t.Helper()
	withS, withU, withUU := l.ledBy(t, s), l.ledBy(t, u), l.ledBy(t, v)
	lists := make([][]int64, 2*len(l.line))
	for i := range lists {
		lists[i] = make([]int64, len(l.line))
	}
	for i := range l.line {
		first, second := lists[i], lists[len(l.line)+i]
		first[i]++
		first[withS[i]]++
		second[i]++
		second[withU[i]]++
		second[withUU[i]]++
	}
	return lists
}

// cuspAmong finds the cusp with the coset of a matrix that leads infinity to the fraction that two
// numbers make.
func (l toldLevel) cuspAmong(cusps [][]int64, p, q int64) int {
	if q < 0 || q == 0 && p < 0 {
		p, q = -p, -q
	}
	coset := l.cosetOf(leadingTo(impl.Fraction{p, q}))
	return slices.IndexFunc(cusps, func(cusp []int64) bool { return slices.Contains(cusp, coset) })
}

// endsOfSymbols has, for each symbol, the ends of the mix that has it once.
func (l toldLevel) endsOfSymbols(t *testing.T) [][]int64 {
	t.Helper()
	cusps := l.cusps(t)
	var lists [][]int64
	for i := range l.line {
		m := l.matrixOf(t, i)
		ends := make([]int64, len(cusps))
		ends[l.cuspAmong(cusps, m[0], m[2])]++
		ends[l.cuspAmong(cusps, m[1], m[3])]--
		lists = append(lists, ends)
	}
	return lists
}

// sumOfMultiples has each list so often as the number at its place tells.
func sumOfMultiples(numbers []int64, lists [][]int64) []int64 {
	sum := make([]int64, len(lists[0]))
	for i, list := range lists {
		for j, x := range list {
			sum[j] += numbers[i] * x
		}
	}
	return sum
}

// rankAsTold brings rows below each other, each one divided by its first number, and takes them off all
// others.
func rankAsTold(lists [][]int64, p int64) int64 {
	var rows [][]int64
	for _, list := range lists {
		row := make([]int64, len(list))
		for i, x := range list {
			row[i] = restAsTold(x, p)
		}
		rows = append(rows, row)
	}
	rank := 0
	for column := range lists[0] {
		found := slices.IndexFunc(rows[rank:], func(row []int64) bool { return row[column] != 0 })
		if found < 0 {
			continue
		}
		rows[rank], rows[rank+found] = rows[rank+found], rows[rank]
		inverse := new(big.Int).ModInverse(big.NewInt(rows[rank][column]), big.NewInt(p)).Int64()
		for i, row := range rows {
			if i == rank || row[column] == 0 {
				continue
			}
			times := row[column] * inverse % p
			for j := range row {
				row[j] = ((row[j]-times*rows[rank][j])%p + p) % p
			}
		}
		if rank++; rank == len(rows) {
			break
		}
	}
	return int64(rank)
}

// goesAsTold asks whether the mix leaves the rank of the relations as it is.
func goesAsTold(relations [][]int64, p int64, x []int64) bool {
	return rankAsTold(append(slices.Clone(relations), x), p) == rankAsTold(relations, p)
}

func unitMix(size, i int, number int64) []int64 {
	x := make([]int64, size)
	x[i] = number
	return x
}

func filledMix(size int, number int64) []int64 {
	x := make([]int64, size)
	for i := range x {
		x[i] = number
	}
	return x
}

// someMixes has mixes with the greatest and the least numbers, and seeded ones.
func someMixes(size int) [][]int64 {
	mixes := [][]int64{filledMix(size, 0), filledMix(size, 1), filledMix(size, mostMixed), filledMix(size, -mostMixed)}
	for _, i := range []int{0, size / 2, size - 1} {
		mixes = append(mixes, unitMix(size, i, 1), unitMix(size, i, mostMixed), unitMix(size, i, -mostMixed))
	}
	random := rand.New(rand.NewSource(int64(size)))
	for i := range 6 {
		x := make([]int64, size)
		for j := range x {
			switch i {
			case 0:
				x[j] = []int64{-mostMixed, 0, mostMixed}[random.Intn(3)]
			case 1:
				x[j] = random.Int63n(3) - 1
			default:
				x[j] = random.Int63n(2*mostMixed+1) - mostMixed
			}
		}
		mixes = append(mixes, x)
	}
	return mixes
}

// someThatGo has sums of multiples of relations. No symbol comes more than five times in all relations, so
// that the numbers are within the limit.
func someThatGo(relations [][]int64) [][]int64 {
	random := rand.New(rand.NewSource(8))
	var mixes [][]int64
	for _, limit := range []int64{1, 3, 40, mostMixed / 5} {
		numbers := make([]int64, len(relations))
		for i := range numbers {
			numbers[i] = random.Int63n(2*limit+1) - limit
		}
		mixes = append(mixes, sumOfMultiples(numbers, relations))
	}
	return mixes
}

// badMixes has lists that are no mixes of so many numbers.
func badMixes(size int) [][]int64 {
	lists := [][]int64{nil, {}, make([]int64, size-1), make([]int64, size+1), make([]int64, 2*size), filledMix(size+1, mostMixed+1)}
	for _, x := range append(beyond(), mostMixed+1, -mostMixed-1) {
		for _, i := range []int{0, size / 2, size - 1} {
			lists = append(lists, unitMix(size, i, x))
		}
	}
	return lists
}

func wantChainOfFraction(t *testing.T, f impl.Fraction, want []impl.Fraction) {
	t.Helper()
	chain, code := impl.ChainOfFraction(f)
	wantFractions(t, fmt.Sprintf("ChainOfFraction(%v)", f), chain, code, want)
}

func wantMix(t *testing.T, n int64, f impl.Fraction, want []int64) {
	t.Helper()
	mix, code := impl.MixOfFraction(n, f)
	wantList(t, fmt.Sprintf("MixOfFraction(%d, %v)", n, f), mix, code, want)
}

func wantNoMix(t *testing.T, n int64, f impl.Fraction, want int64) {
	t.Helper()
	mix, code := impl.MixOfFraction(n, f)
	wantNoList(t, fmt.Sprintf("MixOfFraction(%d, %v)", n, f), mix, code, want)
}

func wantRelations(t *testing.T, n int64, want [][]int64) {
	t.Helper()
	lists, code := impl.RelationsOf(n)
	wantLists(t, fmt.Sprintf("RelationsOf(%d)", n), lists, code, want)
}

func wantNoRelations(t *testing.T, n, want int64) {
	t.Helper()
	lists, code := impl.RelationsOf(n)
	wantNoLists(t, fmt.Sprintf("RelationsOf(%d)", n), lists, code, want)
}

func wantRank(t *testing.T, n, p, wantRank, wantDimension int64) {
	t.Helper()
	rank, code := impl.RankOf(n, p)
	wantNumber(t, fmt.Sprintf("RankOf(%d, %d)", n, p), rank, code, wantRank)
	dimension, code := impl.DimensionOf(n, p)
	wantNumber(t, fmt.Sprintf("DimensionOf(%d, %d)", n, p), dimension, code, wantDimension)
}

func wantNoRank(t *testing.T, n, p, want int64) {
	t.Helper()
	rank, code := impl.RankOf(n, p)
	wantNoNumber(t, fmt.Sprintf("RankOf(%d, %d)", n, p), rank, code, want)
	dimension, code := impl.DimensionOf(n, p)
	wantNoNumber(t, fmt.Sprintf("DimensionOf(%d, %d)", n, p), dimension, code, want)
}

func wantGoes(t *testing.T, n, p int64, x []int64, want bool) {
	t.Helper()
	goes, code := impl.Goes(n, p, x)
	wantAnswer(t, fmt.Sprintf("Goes(%d, %d, %v)", n, p, x), goes, code, want)
}

func wantNoGoes(t *testing.T, n, p int64, x []int64, want int64) {
	t.Helper()
	goes, code := impl.Goes(n, p, x)
	wantNoAnswer(t, fmt.Sprintf("Goes(%d, %d, %v)", n, p, x), goes, code, want)
}

func wantEqualMixes(t *testing.T, n, p int64, x, y []int64, want bool) {
	t.Helper()
	for _, pair := range [][2][]int64{{x, y}, {y, x}} {
		equal, code := impl.AreEqualMixes(n, p, pair[0], pair[1])
		wantAnswer(t, fmt.Sprintf("AreEqualMixes(%d, %d, %v, %v)", n, p, pair[0], pair[1]), equal, code, want)
	}
}

func wantNoEqualMixes(t *testing.T, n, p int64, x, y []int64, want int64) {
	t.Helper()
	for _, pair := range [][2][]int64{{x, y}, {y, x}} {
		equal, code := impl.AreEqualMixes(n, p, pair[0], pair[1])
		wantNoAnswer(t, fmt.Sprintf("AreEqualMixes(%d, %d, %v, %v)", n, p, pair[0], pair[1]), equal, code, want)
	}
}

func wantEnds(t *testing.T, n int64, x, want []int64) {
	t.Helper()
	ends, code := impl.EndsOf(n, x)
	wantList(t, fmt.Sprintf("EndsOf(%d, %v)", n, x), ends, code, want)
}

func wantNoEnds(t *testing.T, n int64, x []int64, want int64) {
	t.Helper()
	ends, code := impl.EndsOf(n, x)
	wantNoList(t, fmt.Sprintf("EndsOf(%d, %v)", n, x), ends, code, want)
}

func TestMaxSymbols(t *testing.T) {
	if impl.MaxSymbols != 72 {
		t.Errorf("MaxSymbols is %d", impl.MaxSymbols)
	}
	for _, n := range levels() {
		if short := len(toldLevelOf(n).line) <= 72; short != slices.Contains(shortLevels(), n) {
			t.Errorf("the line of %d is short: %t", n, short)
		}
	}
}

func chainedFractions() []impl.Fraction {
	list := append(smallFractions(9), someFractions()...)
	list = append(list, farFractions()[:60]...)
	random := rand.New(rand.NewSource(81))
	for range 200 {
		f, code := impl.FractionOf(random.Int63n(2*most+1)-most, 1+random.Int63n(most))
		if code == impl.ErrNone {
			list = append(list, f)
		}
	}
	// The continued fractions of these have the most numbers.
	return append(list, impl.Fraction{701408733, 433494437}, impl.Fraction{433494437, 701408733}, impl.Fraction{-701408733, 433494437}, impl.Fraction{-433494437, 701408733})
}

func TestChainOfFraction(t *testing.T) {
	for _, f := range chainedFractions() {
		wantChainOfFraction(t, f, chainAsConvergents(f))
	}
	for _, bad := range badFractions() {
		chain, code := impl.ChainOfFraction(bad)
		wantNoFractions(t, fmt.Sprintf("ChainOfFraction(%v)", bad), chain, code, impl.ErrInvalid)
	}
}

func TestChainOfFractionExamples(t *testing.T) {
	for _, want := range [][]impl.Fraction{
		{infinity}, {infinity, zero}, {infinity, {1, 1}}, {infinity, {-1, 1}}, {infinity, {7, 1}}, {infinity, {-7, 1}}, {infinity, {most, 1}}, {infinity, {least, 1}},
		{infinity, zero, {1, 2}, {2, 5}}, {infinity, zero, {1, 2}}, {infinity, {-1, 1}, {-1, 2}}, {infinity, {-4, 1}, {-7, 2}}, {infinity, {3, 1}, {7, 2}}, {infinity, {1, 1}, {2, 1}, {5, 3}},
		{infinity, {-1, 1}, zero, {-1, 3}}, {infinity, {-2, 1}, {-1, 1}, {-4, 3}}, {infinity, {-2, 1}, {-3, 2}}, {infinity, {-1, 1}, zero, {-1, 2}, {-2, 5}},
		{infinity, zero, {1, most}}, {infinity, {-1, 1}, zero, {-1, most}}, {infinity, {1, 1}, {most, most - 1}}, {infinity, zero, {1, 1}, {most - 1, most}}, {infinity, {-1, 1}, {1 - most, most}},
		{infinity, {-2, 1}, {-1, 1}, {least, most - 1}}, {infinity, {-333333334, 1}, {-333333333, 1}, {least, 3}}, {infinity, {333333333, 1}, {most, 3}},
	} {
		wantChainOfFraction(t, want[len(want)-1], want)
	}
	chain, _ := impl.ChainOfFraction(impl.Fraction{701408733, 433494437})
	if len(chain) != 43 {
		t.Errorf("the chain of 701408733/433494437 has %d fractions", len(chain))
	}
}

// Promise 13.
func TestNeighboursOfChains(t *testing.T) {
	for _, f := range chainedFractions() {
		chain, code := impl.ChainOfFraction(f)
		if code != impl.ErrNone || len(chain) == 0 || chain[0] != infinity || chain[len(chain)-1] != f {
			t.Errorf("ChainOfFraction(%v) = %v, %d", f, chain, code)
		}
		for i := 1; i < len(chain); i++ {
			if !impl.IsFraction(chain[i]) || !areNear(chain[i-1], chain[i]) {
				t.Errorf("ChainOfFraction(%v) has %v and %v", f, chain[i-1], chain[i])
			}
			near, code := impl.AreNeighbours(chain[i-1], chain[i])
			wantAnswer(t, fmt.Sprintf("AreNeighbours(%v, %v)", chain[i-1], chain[i]), near, code, true)
		}
	}
}

func TestMixOfFraction(t *testing.T) {
	fractions := chainedFractions()
	for _, n := range shortLevels() {
		told := toldLevelOf(n)
		for i, f := range fractions {
			if !slices.Contains([]int64{1, 2, 11, 30, 55, 59}, n) && (int64(i)+n)%11 > 0 {
				continue
			}
			wantMix(t, n, f, told.mixOfFraction(t, f))
		}
	}
}

func TestMixOfFractionExamples(t *testing.T) {
	golden := impl.Fraction{701408733, 433494437}
	for _, c := range []struct {
		n    int64
		f    impl.Fraction
		want []int64
	}{
		{1, infinity, []int64{0}}, {1, zero, []int64{1}}, {1, impl.Fraction{2, 5}, []int64{3}}, {1, impl.Fraction{-1, most}, []int64{3}}, {1, golden, []int64{42}},
		{2, infinity, []int64{0, 0, 0}}, {2, zero, []int64{0, 1, 0}}, {2, impl.Fraction{most, 1}, []int64{0, 1, 0}}, {2, impl.Fraction{-1, 2}, []int64{1, 1, 0}}, {2, impl.Fraction{2, 5}, []int64{1, 2, 0}},
		{2, impl.Fraction{5, 3}, []int64{0, 1, 2}}, {2, golden, []int64{13, 14, 15}}, {3, zero, []int64{0, 1, 0, 0}}, {3, impl.Fraction{1, 2}, []int64{0, 1, 0, 1}}, {3, impl.Fraction{1, 3}, []int64{1, 1, 0, 0}},
		{5, impl.Fraction{1, 2}, []int64{0, 1, 0, 0, 1, 0}}, {5, impl.Fraction{2, 5}, []int64{1, 1, 0, 0, 1, 0}}, {6, impl.Fraction{1, 2}, []int64{0, 1, 0, 0, 0, 0, 0, 1, 0, 0, 0, 0}},
	} {
		wantMix(t, c.n, c.f, c.want)
	}
	mix, code := impl.MixOfFraction(59, golden)
	if sum := sumOfMultiples(filledMix(60, 1), eachAlone(mix)); len(mix) != 60 || sum[0] != 42 || slices.Max(mix) < 2 || code != impl.ErrNone {
		t.Errorf("MixOfFraction(59, %v) = %v, %d", golden, mix, code)
	}
}

// eachAlone has a list for each number.
func eachAlone(list []int64) [][]int64 {
	var lists [][]int64
	for _, x := range list {
		lists = append(lists, []int64{x})
	}
	return lists
}

func TestRelationsOf(t *testing.T) {
	for _, n := range shortLevels() {
		wantRelations(t, n, toldLevelOf(n).relations(t))
	}
	for n, want := range map[int64][][]int64{
		1: {{2}, {3}},
		2: {{1, 1, 0}, {1, 1, 0}, {0, 0, 2}, {1, 1, 1}, {1, 1, 1}, {1, 1, 1}},
		3: {{1, 1, 0, 0}, {1, 1, 0, 0}, {0, 0, 1, 1}, {0, 0, 1, 1}, {1, 1, 0, 1}, {1, 1, 0, 1}, {0, 0, 3, 0}, {1, 1, 0, 1}},
	} {
		wantRelations(t, n, want)
	}
}

// A coset that S keeps comes twice in its relation, and one that U keeps three times.
func TestRelationsOfKeptCosets(t *testing.T) {
	for _, n := range shortLevels() {
		relations, code := impl.RelationsOf(n)
		index, _ := impl.IndexOf(0, n)
		if int64(len(relations)) != 2*index || code != impl.ErrNone {
			t.Fatalf("RelationsOf(%d) has %d lists, %d", n, len(relations), code)
		}
		keptByS, keptByU, _ := impl.CountKept(n)
		for i := range index {
			if relations[i][i] == 2 {
				keptByS--
			}
			if relations[index+i][i] == 3 {
				keptByU--
			}
		}
		if keptByS != 0 || keptByU != 0 {
			t.Errorf("RelationsOf(%d) lacks %d cosets that S, and %d that U keeps", n, keptByS, keptByU)
		}
		for i, relation := range relations {
			if want := []int64{2, 3}[int64(i)/index]; sumOfMultiples(filledMix(len(relation), 1), eachAlone(relation))[0] != want {
				t.Errorf("RelationsOf(%d) has %v at %d", n, relation, i)
			}
		}
	}
}

func TestRankOf(t *testing.T) {
	for _, n := range shortLevels() {
		told := toldLevelOf(n)
		relations := told.relations(t)
		for i, p := range primesOfMixes() {
			if !slices.Contains(someLevels(), n) && (int64(i)+n)%5 > 0 {
				continue
			}
			rank := rankAsTold(relations, p)
			wantRank(t, n, p, rank, int64(len(told.line))-rank)
		}
	}
	for _, c := range [][3]int64{
		{1, 1, 0}, {2, 2, 1}, {3, 3, 1}, {4, 4, 2}, {5, 5, 1}, {6, 9, 3}, {9, 9, 3}, {11, 9, 3}, {13, 13, 1}, {16, 19, 5}, {23, 19, 5}, {25, 25, 5}, {30, 59, 13}, {36, 59, 13}, {37, 33, 5}, {40, 59, 13},
		{49, 47, 9}, {51, 59, 13}, {55, 59, 13}, {59, 49, 11},
	} {
		for _, p := range primesOfMixes() {
			wantRank(t, c[0], p, c[1], c[2])
		}
	}
}

// Promise 14.
func TestDimensionsOfSymbols(t *testing.T) {
	for _, n := range shortLevels() {
		genus, code := impl.GenusOf(n)
		if code != impl.ErrNone {
			t.Errorf("GenusOf(%d) has the error %d", n, code)
		}
		cusps, code := impl.CountCusps(n)
		if code != impl.ErrNone {
			t.Errorf("CountCusps(%d) has the error %d", n, code)
		}
		for _, p := range primesOfMixes() {
			dimension, code := impl.DimensionOf(n, p)
			wantNumber(t, fmt.Sprintf("DimensionOf(%d, %d)", n, p), dimension, code, 2*genus+cusps-1)
		}
	}
}

func TestGoes(t *testing.T) {
	met := map[bool]int{}
	for i, n := range someLevels() {
		relations := toldLevelOf(n).relations(t)
		for j, p := range primesOfMixes() {
			if n > 25 && (i+j)%3 > 0 {
				continue
			}
			mixes := someMixes(len(relations[0]))
			for _, x := range someThatGo(relations) {
				// The second one differs from what goes by 1.
				changed := slices.Clone(x)
				changed[len(x)/3]--
				mixes = append(mixes, x, changed)
			}
			for _, x := range mixes {
				want := goesAsTold(relations, p, x)
				wantGoes(t, n, p, x, want)
				met[want]++
			}
		}
	}
	if met[true] < 200 || met[false] < 200 {
		t.Errorf("of the mixes %d go, and %d do not", met[true], met[false])
	}
}

func TestGoesExamples(t *testing.T) {
	const m = mostMixed
	for _, c := range []struct {
		n    int64
		x    []int64
		want bool
	}{
		{1, []int64{0}, true}, {1, []int64{1}, true}, {1, []int64{m}, true}, {1, []int64{-m}, true},
		{2, []int64{0, 0, 0}, true}, {2, []int64{1, 1, 0}, true}, {2, []int64{0, 0, 1}, true}, {2, []int64{m, m, -m}, true}, {2, []int64{-m, -m, m}, true}, {2, []int64{m, -m, 0}, false}, {2, []int64{-m, m, 0}, false},
		{2, []int64{1, 0, 0}, false}, {2, []int64{0, 1, 0}, false}, {2, []int64{1, -1, 0}, false}, {2, []int64{0, 0, -m}, true}, {2, []int64{m, m - 1, m}, false},
		{3, []int64{0, 0, 1, 0}, true}, {3, []int64{0, 0, 0, 1}, true}, {3, []int64{1, 1, 0, 0}, true}, {3, []int64{m, m, -m, m}, true}, {3, []int64{1, 0, 0, 0}, false}, {3, []int64{0, -1, 0, 0}, false},
		// Ends of 0 alone are not enough where the genus is not 0.
		{11, []int64{0, 0, 0, 1, 0, 0, 0, 0, 0, 0, 0, 0}, false}, {11, []int64{0, 0, 0, 0, 1, 0, 0, 0, 0, 0, 0, 0}, false}, {11, []int64{0, 0, 0, m, 0, 0, 0, 0, 0, 0, 0, 0}, false},
		{11, []int64{0, 0, 0, 1, 0, 0, 0, 1, 0, 0, 0, 0}, true}, {11, []int64{1, 1, 0, 0, 0, 0, 0, 0, 0, 0, 0, 0}, true}, {11, []int64{0, 0, 1, 0, 0, 0, 0, 0, 0, 0, 0, 0}, true},
	} {
		for _, p := range primesOfMixes() {
			// Only 1000000 has one of the primes as a divisor.
			if p == 5 && !c.want && slices.ContainsFunc(c.x, func(x int64) bool { return x == m || x == -m }) {
				continue
			}
			wantGoes(t, c.n, p, c.x, c.want)
		}
	}
	wantGoes(t, 2, 5, []int64{m, -m, 0}, true)
	wantGoes(t, 2, 5, []int64{-m, 0, 0}, true)
	wantGoes(t, 2, 5, []int64{m, m - 1, m}, false)
	wantGoes(t, 2, 5, []int64{m, m - 5, m}, true)
}

// Promise 8, in part: relations go, and so do multiples.
func TestRelationsGo(t *testing.T) {
	for _, n := range shortLevels() {
		relations, _ := impl.RelationsOf(n)
		for i, relation := range relations {
			p := primesOfMixes()[(int64(i)+n)%5]
			wantGoes(t, n, p, relation, true)
			if i == 0 || i == len(relations)-1 {
				for _, p := range primesOfMixes() {
					wantGoes(t, n, p, relation, true)
					wantGoes(t, n, p, sumOfMultiples([]int64{-mostMixed / 3}, [][]int64{relation}), true)
				}
			}
		}
	}
}

// The mixes are those of TestGoes, taken apart.
func TestAreEqualMixes(t *testing.T) {
	for i, n := range someLevels() {
		relations := toldLevelOf(n).relations(t)
		mixes := append(someMixes(len(relations[0])), someThatGo(relations)...)
		p := primesOfMixes()[i%5]
		for j, x := range mixes {
			y := mixes[(j*7+i)%len(mixes)]
			difference := sumOfMultiples([]int64{1, -1}, [][]int64{x, y})
			wantEqualMixes(t, n, p, x, y, goesAsTold(relations, p, difference))
			wantEqualMixes(t, n, p, x, x, true)
		}
	}
}

func TestAreEqualMixesExamples(t *testing.T) {
	const m = mostMixed
	for _, c := range []struct {
		n    int64
		x, y []int64
		want bool
	}{
		{1, []int64{-m}, []int64{m}, true}, {2, []int64{1, 0, 0}, []int64{0, -1, 0}, true}, {2, []int64{1, 0, 0}, []int64{0, 1, 0}, false}, {2, []int64{m, m, m}, []int64{-m, -m, -m}, true},
		{2, []int64{0, 0, m}, []int64{0, 0, -m}, true}, {2, []int64{3, 0, 0}, []int64{0, -3, 7}, true}, {2, []int64{3, 0, 0}, []int64{0, -2, 7}, false}, {2, []int64{m, -m, 0}, []int64{m, -m, 5}, true},
		{2, []int64{m, 0, 0}, []int64{-m, 0, 1}, false}, {2, []int64{m, 0, 0}, []int64{0, -m, 0}, true}, {3, []int64{m, 0, 0, 0}, []int64{0, -m, m, m}, true}, {3, []int64{1, 0, 0, 0}, []int64{2, 0, 0, 0}, false},
	} {
		for _, p := range primesOfMixes()[1:] {
			wantEqualMixes(t, c.n, p, c.x, c.y, c.want)
		}
		// 5 divides 1000000, which the first number of these is.
		wantEqualMixes(t, c.n, 5, c.x, c.y, c.want || c.x[0] == m)
	}
}

// Here the difference of the mixes is no sum of multiples of relations, but one prime divides its numbers.
func TestMixesThatAreEqualForOnePrime(t *testing.T) {
	for _, n := range []int64{2, 3, 6, 11, 25, 30, 37, 55, 59} {
		relations := toldLevelOf(n).relations(t)
		going := someThatGo(relations)
		size := len(relations[0])
		for _, p := range primesOfMixes() {
			for i, x := range [][]int64{filledMix(size, 0), going[0], going[2]} {
				y := sumOfMultiples([]int64{1, 1}, [][]int64{x, going[1]})
				y[0] += p * []int64{1, -2, 3}[i]
				for _, other := range primesOfMixes() {
					wantEqualMixes(t, n, other, x, y, other == p)
					wantGoes(t, n, other, y, other == p)
				}
			}
		}
		both := unitMix(size, 0, 35)
		for _, p := range primesOfMixes() {
			wantEqualMixes(t, n, p, both, filledMix(size, 0), p < 11)
		}
	}
}

func TestEndsOf(t *testing.T) {
	for _, n := range shortLevels() {
		told := toldLevelOf(n)
		alone := told.endsOfSymbols(t)
		for i := range told.line {
			wantEnds(t, n, unitMix(len(told.line), i, 1), alone[i])
			wantEnds(t, n, unitMix(len(told.line), i, -mostMixed), sumOfMultiples([]int64{-mostMixed}, alone[i:i+1]))
		}
		for _, x := range someMixes(len(told.line)) {
			wantEnds(t, n, x, sumOfMultiples(x, alone))
		}
	}
}

func TestEndsOfExamples(t *testing.T) {
	const m = mostMixed
	for _, c := range []struct {
		n       int64
		x, want []int64
	}{
		{1, []int64{0}, []int64{0}}, {1, []int64{m}, []int64{0}}, {2, []int64{1, 0, 0}, []int64{1, -1}}, {2, []int64{0, 1, 0}, []int64{-1, 1}}, {2, []int64{0, 0, 1}, []int64{0, 0}}, {2, []int64{m, -m, m}, []int64{2 * m, -2 * m}},
		{2, []int64{-m, 0, 0}, []int64{-m, m}}, {4, []int64{0, 0, 0, 1, 0, 0}, []int64{0, 1, -1}}, {4, []int64{0, 0, 0, 0, 0, 1}, []int64{0, -1, 1}}, {4, []int64{0, 0, 1, 0, 0, 0}, []int64{0, 0, 0}}, {4, []int64{1, 0, 0, 5, 0, 0}, []int64{1, 4, -5}},
		{11, []int64{0, 0, 0, 7, 0, 0, 0, 0, 0, 0, 0, 0}, []int64{0, 0}}, {11, []int64{3, 0, 0, 7, 0, 0, 0, 0, 0, 0, 0, 0}, []int64{3, -3}},
	} {
		wantEnds(t, c.n, c.x, c.want)
	}
}

func indexOfLevel(n int64) int64 {
	index, _ := impl.IndexOf(0, n)
	return index
}

// Promise 8, for relations.
func TestRelationsHaveEnds0(t *testing.T) {
	for _, n := range shortLevels() {
		count, _ := impl.CountCusps(n)
		relations, code := impl.RelationsOf(n)
		if code != impl.ErrNone || len(relations) == 0 {
			t.Fatalf("RelationsOf(%d) has the error %d", n, code)
		}
		for _, relation := range relations {
			wantEnds(t, n, relation, make([]int64, count))
		}
		for _, x := range someThatGo(relations) {
			wantEnds(t, n, x, make([]int64, count))
		}
	}
}

// Promise 8, for fractions.
func TestMixesOfFractionsHaveTheirEnds(t *testing.T) {
	fractions := chainedFractions()
	for _, n := range shortLevels() {
		count, _ := impl.CountCusps(n)
		met := map[int64]bool{}
		for i, f := range fractions {
			if n != 36 && (int64(i)+n)%5 > 0 {
				continue
			}
			mix, code := impl.MixOfFraction(n, f)
			if code != impl.ErrNone {
				t.Errorf("MixOfFraction(%d, %v) has the error %d", n, f, code)
			}
			last, _ := impl.CuspOfFraction(n, f)
			first, _ := impl.CuspOfFraction(n, infinity)
			met[last] = true
			want := make([]int64, count)
			want[last]++
			want[first]--
			wantEnds(t, n, mix, want)
		}
		if n == 36 && len(met) != 12 {
			t.Errorf("only the cusps %v of 36 were met", met)
		}
	}
}

// A walk over other neighbours than those of the chain has an equal mix.
func TestWalksOverNeighboursHaveEqualMixes(t *testing.T) {
	for _, n := range []int64{1, 2, 11, 14, 30, 37, 55} {
		told := toldLevelOf(n)
		for _, f := range smallFractions(7) {
			if f[0] <= 0 || f[1] == 0 {
				continue
			}
			mix, _ := impl.MixOfFraction(n, f)
			walk := told.mixOfWalk(t, f)
			for _, p := range primesOfMixes() {
				wantEqualMixes(t, n, p, mix, walk, true)
			}
		}
	}
}

// mixOfWalk goes from infinity to 0/1, and on over all fractions that are met on the way down the tree.
func (l toldLevel) mixOfWalk(t *testing.T, f impl.Fraction) []int64 {
	t.Helper()
	mix := make([]int64, len(l.line))
	last := infinity
	path, _, _ := walkAsTold(f)
	ahead := []impl.Fraction{zero, {1, 1}}
	for i := range path {
		ahead = append(ahead, endOfPath(path[:i+1]))
	}
	for _, next := range ahead {
		// Mediants are neighbours of what they are made of.
		sign := next[0]*last[1] - last[0]*next[1]
		mix[l.cosetOf(impl.Matrix{next[0], sign * last[0], next[1], sign * last[1]})]++
		last = next
	}
	return mix
}

// TestErrorsOfLevelsOfMixes has arguments with later errors, too.
func TestErrorsOfLevelsOfMixes(t *testing.T) {
	for _, n := range badLevels() {
		wantNoMix(t, n, impl.Fraction{2, 5}, impl.ErrRange)
		wantNoMix(t, n, infinity, impl.ErrRange)
		wantNoRelations(t, n, impl.ErrRange)
		for _, p := range append(primesOfMixes(), 0, 2, 13) {
			wantNoRank(t, n, p, impl.ErrRange)
			for _, size := range []int{0, 1, 3, 72} {
				x := make([]int64, size)
				wantNoGoes(t, n, p, x, impl.ErrRange)
				wantNoEqualMixes(t, n, p, x, []int64{mostMixed + 1}, impl.ErrRange)
				wantNoEnds(t, n, x, impl.ErrRange)
			}
		}
	}
}

// For these levels what would be a mix, and what would be none, have the same error.
func TestErrorsOfLongLines(t *testing.T) {
	for _, n := range longLevels() {
		size := int(indexOfLevel(n))
		wantNoMix(t, n, impl.Fraction{2, 5}, impl.ErrLimit)
		wantNoMix(t, n, infinity, impl.ErrLimit)
		wantNoRelations(t, n, impl.ErrLimit)
		mix := make([]int64, size)
		lists := append(badMixes(size), mix, make([]int64, impl.MaxSymbols))
		for _, x := range lists {
			wantNoEnds(t, n, x, impl.ErrLimit)
		}
		for _, p := range primesOfMixes() {
			wantNoRank(t, n, p, impl.ErrLimit)
			for _, x := range lists {
				wantNoGoes(t, n, p, x, impl.ErrLimit)
				wantNoEqualMixes(t, n, p, x, mix, impl.ErrLimit)
			}
		}
		for _, p := range badPrimes() {
			wantNoRank(t, n, p, impl.ErrRange)
			wantNoGoes(t, n, p, mix, impl.ErrRange)
			wantNoGoes(t, n, p, nil, impl.ErrRange)
			wantNoEqualMixes(t, n, p, mix, mix, impl.ErrRange)
		}
	}
}

func TestErrorsOfPrimes(t *testing.T) {
	for _, p := range badPrimes() {
		for _, n := range []int64{1, 2, 11, 55, 59} {
			mix := make([]int64, indexOfLevel(n))
			wantNoRank(t, n, p, impl.ErrRange)
			wantNoGoes(t, n, p, mix, impl.ErrRange)
			wantNoGoes(t, n, p, nil, impl.ErrRange)
			wantNoEqualMixes(t, n, p, mix, mix, impl.ErrRange)
		}
	}
}

func TestErrorsOfMixes(t *testing.T) {
	for _, n := range []int64{1, 2, 3, 11, 55, 59} {
		size := int(indexOfLevel(n))
		for _, bad := range badMixes(size) {
			wantNoEnds(t, n, bad, impl.ErrRange)
			for _, p := range []int64{5, 10007} {
				wantNoGoes(t, n, p, bad, impl.ErrRange)
				wantNoEqualMixes(t, n, p, bad, make([]int64, size), impl.ErrRange)
				wantNoEqualMixes(t, n, p, bad, bad, impl.ErrRange)
			}
		}
	}
}

// What is no fraction has the first error, whatever the level is.
func TestErrorsOfMixesOfFractions(t *testing.T) {
	for _, n := range slices.Concat(badLevels(), longLevels(), []int64{1, 2, 11, 55, 59}) {
		for _, bad := range badFractions() {
			wantNoMix(t, n, bad, impl.ErrInvalid)
		}
	}
}

func TestMixesAreLeftAlone(t *testing.T) {
	for _, n := range []int64{2, 11, 55} {
		size := int(indexOfLevel(n))
		random := rand.New(rand.NewSource(n))
		spare := make([]int64, 3*size)
		for i := range spare {
			spare[i] = random.Int63n(2*mostMixed+1) - mostMixed
		}
		want := slices.Clone(spare)
		x, y := spare[:size], spare[size:2*size]
		impl.Goes(n, 7, x)
		impl.AreEqualMixes(n, 7, x, y)
		impl.AreEqualMixes(n, 7, x, x)
		impl.EndsOf(n, x)
		if !slices.Equal(spare, want) {
			t.Errorf("mixes of %d were changed", n)
		}
	}
}

// TestListsOfSymbolsAreNew changes all of a result, and appends to its lists.
func TestListsOfSymbolsAreNew(t *testing.T) {
	for _, n := range []int64{1, 2, 11, 55} {
		want := toldLevelOf(n).relations(t)
		relations, _ := impl.RelationsOf(n)
		for _, relation := range relations {
			_ = append(relation, -7)
		}
		wantLists(t, fmt.Sprintf("RelationsOf(%d) behind its lists", n), relations, impl.ErrNone, want)
		for i, relation := range relations {
			for j := range relation {
				relation[j] = -7
			}
			if i+1 < len(relations) && !slices.Equal(relations[i+1], want[i+1]) {
				t.Errorf("RelationsOf(%d) has lists that share memory", n)
			}
		}
		wantRelations(t, n, want)
		f := impl.Fraction{2, 5}
		chain, _ := impl.ChainOfFraction(f)
		mix, _ := impl.MixOfFraction(n, f)
		ends, _ := impl.EndsOf(n, mix)
		wantMixOnce, wantEndsOnce := slices.Clone(mix), slices.Clone(ends)
		for i := range chain {
			chain[i] = zero
		}
		for _, list := range [][]int64{mix, ends} {
			for i := range list {
				list[i] = -7
			}
		}
		wantChainOfFraction(t, f, []impl.Fraction{infinity, zero, {1, 2}, f})
		wantMix(t, n, f, wantMixOnce)
		wantEnds(t, n, wantMixOnce, wantEndsOnce)
	}
}
