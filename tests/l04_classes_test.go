package tests

import (
	"fmt"
	"slices"
	"strings"
	"testing"

	"loop.example/g01380/impl"
)

// v is U U.
var v = impl.Matrix{0, -1, 1, -1}

func opposed(m impl.Matrix) impl.Matrix {
	return impl.Matrix{m[3], -m[1], -m[2], m[0]}
}

func reflected(m impl.Matrix) impl.Matrix {
	return impl.Matrix{m[0], -m[1], -m[2], m[3]}
}

// conjugated tells the product of g, m and the inverse of g, if it can be told within MaxEntry.
func conjugated(m, g impl.Matrix) (impl.Matrix, bool) {
	return exactProducts(g, m, opposed(g))
}

// conjugatesOf has m, what small matrices make of it, and what many great ones do.
func conjugatesOf(t *testing.T, m impl.Matrix) []impl.Matrix {
	t.Helper()
	list := []impl.Matrix{m}
	for _, g := range append(someMatrices(t, 3), wordMatrices()...) {
		if n, within := conjugated(m, g); within {
			list = append(list, n)
		}
	}
	return list
}

// reachedFrom has all matrices to which conjugating by S, T and their inverses leads step by step,
// with no number above the bound.
func reachedFrom(m impl.Matrix, bound int64) map[impl.Matrix]bool {
	steps := []impl.Matrix{s, powerOfT(1), powerOfT(-1)}
	reached := map[impl.Matrix]bool{m: true}
	for queue := []impl.Matrix{m}; len(queue) > 0; queue = queue[1:] {
		for _, g := range steps {
			n, _ := conjugated(queue[0], g)
			if !reached[n] && slices.Max(n[:]) <= bound && slices.Min(n[:]) >= -bound {
				reached[n] = true
				queue = append(queue, n)
			}
		}
	}
	return reached
}

// turnsOf has the words that come from a word by turning.
func turnsOf(word string) []string {
	var list []string
	for range len(word) {
		list = append(list, word)
		word = word[1:] + word[:1]
	}
	return list
}

func leastTurn(word string) string {
	return slices.Min(turnsOf(word))
}

// isRepeated tells whether a word is a shorter one more than once.
func isRepeated(word string) bool {
	return slices.Contains(turnsOf(word)[1:], word)
}

// exchanged has L for T and T for L.
func exchanged(word string) string {
	return strings.Map(func(letter rune) rune { return 'L' + 'T' - letter }, word)
}

func backwards(word string) string {
	letters := []byte(word)
	slices.Reverse(letters)
	return string(letters)
}

// hyperbolicWords has all words of at most n letters that have both L and T.
func hyperbolicWords(n int) []string {
	return slices.DeleteFunc(wordsOf("LT", n), func(word string) bool {
		return !strings.Contains(word, "L") || !strings.Contains(word, "T")
	})
}

func wantCyclic(t *testing.T, m impl.Matrix, want string) {
	t.Helper()
	word, code := impl.CyclicWord(m)
	wantText(t, fmt.Sprintf("CyclicWord(%v)", m), word, code, want)
}

func wantConjugate(t *testing.T, m, n impl.Matrix, want bool) {
	t.Helper()
	answer, code := impl.AreConjugate(m, n)
	wantAnswer(t, fmt.Sprintf("AreConjugate(%v, %v)", m, n), answer, code, want)
	answer, code = impl.AreConjugate(n, m)
	wantAnswer(t, fmt.Sprintf("AreConjugate(%v, %v)", n, m), answer, code, want)
}

func wantNoConjugate(t *testing.T, m, n impl.Matrix, want int64) {
	t.Helper()
	answer, code := impl.AreConjugate(m, n)
	wantNoAnswer(t, fmt.Sprintf("AreConjugate(%v, %v)", m, n), answer, code, want)
	answer, code = impl.AreConjugate(n, m)
	wantNoAnswer(t, fmt.Sprintf("AreConjugate(%v, %v)", n, m), answer, code, want)
}

func wantRoot(t *testing.T, m, want impl.Matrix, wantExponent int64) {
	t.Helper()
	root, exponent, code := impl.RootOf(m)
	if root != want || exponent != wantExponent || code != impl.ErrNone {
		t.Errorf("RootOf(%v) = %v, %d, %d, not %v, %d", m, root, exponent, code, want, wantExponent)
	}
}

func wantNoRoot(t *testing.T, m impl.Matrix, want int64) {
	t.Helper()
	root, exponent, code := impl.RootOf(m)
	if root != (impl.Matrix{}) || exponent != 0 || code != want {
		t.Errorf("RootOf(%v) = %v, %d, %d, not the error %d", m, root, exponent, code, want)
	}
}

func wantSymmetries(t *testing.T, m impl.Matrix, reciprocal, mirrored bool) {
	t.Helper()
	answer, code := impl.IsReciprocal(m)
	wantAnswer(t, fmt.Sprintf("IsReciprocal(%v)", m), answer, code, reciprocal)
	answer, code = impl.IsMirrored(m)
	wantAnswer(t, fmt.Sprintf("IsMirrored(%v)", m), answer, code, mirrored)
}

func TestMaxTrace(t *testing.T) {
	if impl.MaxTrace != 60 {
		t.Errorf("MaxTrace is %d", impl.MaxTrace)
	}
}

func TestEllipticName(t *testing.T) {
	for want, first := range map[string]impl.Matrix{
		"S": s, "-S": opposite(s), "U": u, "-U": opposite(u), "V": v, "-V": opposite(v),
	} {
		for _, m := range conjugatesOf(t, first) {
			name, code := impl.EllipticName(m)
			wantText(t, fmt.Sprintf("EllipticName(%v)", m), name, code, want)
		}
	}
	for _, c := range []struct {
		m    impl.Matrix
		want string
	}{
		// The inverse ones.
		{impl.Matrix{0, 1, -1, 1}, "-V"}, {impl.Matrix{-1, 1, -1, 0}, "-U"},
		{impl.Matrix{31622, -999950885, 1, -31622}, "S"}, {impl.Matrix{31622, -1, 999950885, -31622}, "S"},
		{impl.Matrix{31622, 1, -999950885, -31622}, "-S"}, {impl.Matrix{-31622, 999950885, -1, 31622}, "-S"},
		{impl.Matrix{31623, -999982507, 1, -31622}, "U"}, {impl.Matrix{-31622, -999982507, 1, 31623}, "U"},
		{impl.Matrix{31622, -999982507, 1, -31623}, "V"}, {impl.Matrix{31622, 999982507, -1, -31623}, "-U"},
		{impl.Matrix{31623, 999982507, -1, -31622}, "-V"},
	} {
		name, code := impl.EllipticName(c.m)
		wantText(t, fmt.Sprintf("EllipticName(%v)", c.m), name, code, c.want)
	}
}

func TestParabolicShift(t *testing.T) {
	for _, k := range []int64{1, -1, 2, -2, 3, -3, 4, 6, -12, 1000, -30030, 999999937, most, least} {
		for _, m := range conjugatesOf(t, powerOfT(k)) {
			shift, code := impl.ParabolicShift(m)
			wantNumber(t, fmt.Sprintf("ParabolicShift(%v)", m), shift, code, k)
			shift, code = impl.ParabolicShift(opposite(m))
			wantNumber(t, fmt.Sprintf("ParabolicShift(%v)", opposite(m)), shift, code, k)
			shift, code = impl.ParabolicShift(opposed(m))
			wantNumber(t, fmt.Sprintf("ParabolicShift(%v)", opposed(m)), shift, code, -k)
		}
	}
	for _, c := range []struct {
		m    impl.Matrix
		want int64
	}{
		{impl.Matrix{1, 0, 1, 1}, -1}, {impl.Matrix{1, 0, -1, 1}, 1}, {impl.Matrix{-1, 0, 1, -1}, 1}, {impl.Matrix{-1, 0, -1, -1}, -1},
		{impl.Matrix{-1, 1, 0, -1}, -1}, {impl.Matrix{-1, -1, 0, -1}, 1},
		{impl.Matrix{1, 0, most, 1}, least}, {impl.Matrix{1, 0, least, 1}, most},
		{impl.Matrix{-1, 0, most, -1}, most}, {impl.Matrix{-1, most, 0, -1}, least},
		// What leads infinity to 3/2, 31622/1 and 1/31622 keeps these fractions in place of it.
		{impl.Matrix{-5, 9, -4, 7}, 1}, {impl.Matrix{7, -9, 4, -5}, -1}, {impl.Matrix{-59, 90, -40, 61}, 10},
		{impl.Matrix{-31621, 999950884, -1, 31623}, 1}, {impl.Matrix{31623, 1, -999950884, -31621}, 1},
		{impl.Matrix{31623, -999950884, 1, -31621}, -1},
	} {
		shift, code := impl.ParabolicShift(c.m)
		wantNumber(t, fmt.Sprintf("ParabolicShift(%v)", c.m), shift, code, c.want)
	}
}

func TestCyclicWord(t *testing.T) {
	wantCyclic(t, impl.Matrix{1, 1, 1, 2}, "LT")
	wantCyclic(t, cat, "LT")
	wantCyclic(t, opposite(cat), "LT")
	wantCyclic(t, opposed(cat), "LT")
	for _, word := range hyperbolicWords(9) {
		m, _ := exactWord(word)
		wantCyclic(t, m, leastTurn(word))
		wantCyclic(t, opposite(m), leastTurn(word))
	}
}

func TestCyclicWordsOfConjugateMatrices(t *testing.T) {
	for _, word := range []string{
		"LT", "LLT", "LTT", "LLTT", "LTLT", "LLTLT", "LTLTLT", "LLTLTT", "LLTTLT", "LTLTT", "LLLLLLLTTTTTTTTT", "LLTLTTLTTTLLTLTT",
		strings.Repeat("LT", 12), strings.Repeat("L", 30) + strings.Repeat("T", 30), strings.Repeat("LLT", 8), strings.Repeat("L", 60) + "T",
	} {
		first, _ := exactWord(word)
		for _, turned := range turnsOf(word) {
			m, _ := exactWord(turned)
			wantCyclic(t, m, leastTurn(word))
			wantConjugate(t, m, first, true)
		}
		for _, m := range conjugatesOf(t, first) {
			if _, code := impl.FreeWord(m); code != impl.ErrNone {
				continue
			}
			wantCyclic(t, m, leastTurn(word))
			wantCyclic(t, opposite(m), leastTurn(word))
			wantConjugate(t, m, first, true)
			wantConjugate(t, opposite(m), opposite(first), true)
			wantConjugate(t, m, opposite(first), false)
		}
	}
}

// wrapped has the free word ahead of the core, and its inverse behind it.
func wrapped(ahead, core string) string {
	swapped := strings.Map(func(letter rune) rune {
		if letter == 'S' {
			return letter
		}
		return 'U' + 'V' - letter
	}, ahead)
	return ahead + core + backwards(swapped)
}

// matrixOfFree tells the matrix of a free word, and asks for this word.
func matrixOfFree(t *testing.T, word string) impl.Matrix {
	t.Helper()
	m, within := exactWord(word)
	if !within {
		t.Fatalf("the word %s is beyond the limit", word)
	}
	free, code := impl.FreeWord(m)
	if len(word) > impl.MaxLetters {
		wantNoText(t, fmt.Sprintf("FreeWord(%v)", m), free, code, impl.ErrLimit)
	} else {
		wantText(t, fmt.Sprintf("FreeWord(%v)", m), free, code, word)
	}
	return m
}

// wordsAtTheLimit has free words with nearly MaxLetters letters, and the cyclic words of their matrices.
func wordsAtTheLimit() map[string]string {
	return map[string]string{
		strings.Repeat("US", 50) + strings.Repeat("VS", 50):             strings.Repeat("L", 50) + strings.Repeat("T", 50),
		strings.Repeat("SU", 50) + strings.Repeat("SV", 50):             strings.Repeat("L", 50) + strings.Repeat("T", 50),
		"S" + strings.Repeat("VS", 30) + strings.Repeat("US", 69) + "V": strings.Repeat("L", 31) + strings.Repeat("T", 69),
		strings.Repeat("US", 99) + "VS":                                 "L" + strings.Repeat("T", 99),
		strings.Repeat("VS", 99) + "US":                                 strings.Repeat("L", 99) + "T",
		// 199 letters, two of them equal where the ends meet.
		strings.Repeat("VS", 50) + strings.Repeat("US", 49) + "V": strings.Repeat("L", 49) + strings.Repeat("T", 50),
		strings.Repeat("US", 50) + strings.Repeat("VS", 49) + "U": strings.Repeat("L", 50) + strings.Repeat("T", 49),
		// 199 letters, most of them around a core.
		wrapped("S"+strings.Repeat("US", 48), "VSVSV"): "LT",
		wrapped("S"+strings.Repeat("VS", 48), "USUSU"): "LT",
		wrapped(strings.Repeat("US", 47), "VSVSVSVSV"): "LLLT",
		wrapped(strings.Repeat("VS", 48), "USVSUSU"):   "LLT",
	}
}

// wordsBeyondTheLimit has free words with 201 letters and more.
func wordsBeyondTheLimit() []string {
	return []string{
		strings.Repeat("US", 50) + strings.Repeat("VS", 50) + "U",
		"S" + strings.Repeat("US", 50) + strings.Repeat("VS", 49) + "US",
		strings.Repeat("US", 50) + strings.Repeat("VS", 51),
		strings.Repeat("SU", 50) + strings.Repeat("SV", 51),
		wrapped(strings.Repeat("US", 49), "VSVSV"),
		wrapped(strings.Repeat("VS", 49), "USUSU"),
		wrapped("S"+strings.Repeat("US", 49), "VSVSV"),
		wrapped(strings.Repeat("US", 10000), "VSVSV"),
	}
}

func TestCyclicWordAtTheLimit(t *testing.T) {
	for free, want := range wordsAtTheLimit() {
		m := matrixOfFree(t, free)
		wantCyclic(t, m, want)
		wantCyclic(t, opposite(m), want)
	}
	for _, free := range wordsBeyondTheLimit() {
		m := matrixOfFree(t, free)
		for _, m := range []impl.Matrix{m, opposite(m), opposed(m)} {
			word, code := impl.CyclicWord(m)
			wantNoText(t, fmt.Sprintf("CyclicWord(%v)", m), word, code, impl.ErrLimit)
		}
	}
}

func TestAreConjugateForSmallMatrices(t *testing.T) {
	list, _ := impl.MatricesWithin(3)
	for _, m := range list {
		reached := reachedFrom(m, 40)
		for _, n := range list {
			answer, code := impl.AreConjugate(m, n)
			wantAnswer(t, fmt.Sprintf("AreConjugate(%v, %v)", m, n), answer, code, reached[n])
		}
	}
}

func TestAreConjugateForEachKind(t *testing.T) {
	wantConjugate(t, cat, impl.Matrix{1, 1, 1, 2}, true)
	wantConjugate(t, impl.Matrix{5, 3, 3, 2}, impl.Matrix{2, 3, 3, 5}, true)
	// No two of these are conjugate.
	firsts := []impl.Matrix{
		one, opposite(one), s, opposite(s), u, opposite(u), v, opposite(v),
		powerOfT(1), powerOfT(-1), powerOfT(2), opposite(powerOfT(1)), opposite(powerOfT(-1)), powerOfT(most), powerOfT(least),
		opposite(powerOfT(most)), opposite(powerOfT(least)), cat, opposite(cat), {1, 1, 2, 3}, {1, 2, 1, 3}, {1, 1, 3, 4}, {1, 3, 1, 4},
		opposite(impl.Matrix{1, 1, 2, 3}), {5, 3, 3, 2}, {1, 1, 5, 6}, {1, 5, 1, 6},
	}
	for i, m := range firsts {
		for j, n := range firsts {
			wantConjugate(t, m, n, i == j)
		}
		for k, n := range conjugatesOf(t, m) {
			if k < 60 {
				wantConjugate(t, m, n, true)
				wantConjugate(t, opposite(m), n, false)
			}
		}
	}
}

func TestAreConjugateAtTheLimit(t *testing.T) {
	var long []impl.Matrix
	for _, free := range wordsBeyondTheLimit() {
		long = append(long, matrixOfFree(t, free))
	}
	for _, m := range long {
		for _, n := range []impl.Matrix{m, opposed(m), reflected(m), {0, -1, 1, m[0] + m[3]}, {m[0] + m[3], 1, -1, 0}} {
			wantNoConjugate(t, m, n, impl.ErrLimit)
			wantNoConjugate(t, opposite(m), opposite(n), impl.ErrLimit)
		}
		for _, n := range []impl.Matrix{
			one, opposite(one), s, u, v, powerOfT(1), powerOfT(most), opposite(powerOfT(1)), opposite(m), opposite(opposed(m)),
			{0, -1, 1, m[0] + m[3] + 1}, {0, -1, 1, -m[0] - m[3]},
		} {
			wantConjugate(t, m, n, false)
		}
	}
	for free, word := range wordsAtTheLimit() {
		m := matrixOfFree(t, free)
		n, _ := exactWord(word)
		if m[0]+m[3] < 0 {
			n = opposite(n)
		}
		wantConjugate(t, m, n, true)
		wantConjugate(t, m, opposite(n), false)
	}
	// No free word is asked for the other kinds.
	for _, c := range []struct {
		m, n impl.Matrix
		want bool
	}{
		{powerOfT(most), powerOfT(most), true}, {powerOfT(most), impl.Matrix{1, 0, least, 1}, true}, {powerOfT(most), impl.Matrix{1, 0, most, 1}, false},
		{powerOfT(101), powerOfT(-101), false}, {powerOfT(101), one, false}, {opposite(powerOfT(101)), opposite(one), false},
		{impl.Matrix{31622, -999950885, 1, -31622}, s, true}, {impl.Matrix{31622, -999950885, 1, -31622}, opposite(s), false},
		{impl.Matrix{31623, -999982507, 1, -31622}, impl.Matrix{-31622, -999982507, 1, 31623}, true},
	} {
		wantConjugate(t, c.m, c.n, c.want)
	}
}

// isConjugator tells whether the product of g, m and the inverse of g is n. What is beyond the limit
// cannot be n, but a product on the way may be.
func isConjugator(g, m, n impl.Matrix) bool {
	left, _ := exactProduct(g, m)
	product, within := exactProduct(left, opposed(g))
	return within && product == n
}

func firstConjugatorAsTold(t *testing.T, m, n impl.Matrix, k int64) (impl.Matrix, bool) {
	t.Helper()
	list, code := impl.MatricesWithin(k)
	if code != impl.ErrNone {
		t.Fatalf("MatricesWithin(%d) returns the error %d", k, code)
	}
	for _, g := range list {
		if isConjugator(g, m, n) {
			return g, true
		}
	}
	return impl.Matrix{}, false
}

func wantFirstConjugator(t *testing.T, m, n impl.Matrix, k int64) {
	t.Helper()
	what := fmt.Sprintf("FirstConjugator(%v, %v, %d)", m, n, k)
	g, code := impl.FirstConjugator(m, n, k)
	if want, found := firstConjugatorAsTold(t, m, n, k); found {
		wantMatrix(t, what, g, code, want)
	} else {
		wantNoMatrix(t, what, g, code, impl.ErrNotFound)
	}
}

func TestFirstConjugator(t *testing.T) {
	firsts := []impl.Matrix{
		one, opposite(one), s, opposite(s), u, v, opposite(v), powerOfT(1), opposite(powerOfT(3)), powerOfT(most), powerOfT(least + 9),
		{1, 0, most, 1}, {-1, 0, least, -1}, cat, opposite(cat), {5, 3, 3, 2}, {144, 89, 55, 34}, {most, most - 1, 1, 1},
	}
	for _, m := range firsts {
		for k := range int64(4) {
			wantFirstConjugator(t, m, m, k)
			wantFirstConjugator(t, m, opposite(m), k)
			wantFirstConjugator(t, m, opposed(m), k)
			for _, n := range firsts {
				wantFirstConjugator(t, m, n, k)
			}
		}
		list, _ := impl.MatricesWithin(3)
		for i, g := range list {
			if n, within := conjugated(m, g); within {
				wantFirstConjugator(t, m, n, int64(i%4))
				wantFirstConjugator(t, m, n, 3)
			}
		}
	}
}

func TestFirstConjugatorExamples(t *testing.T) {
	for _, c := range []struct {
		m, n impl.Matrix
		k    int64
		want impl.Matrix
	}{
		{cat, cat, 1, opposite(one)}, {cat, cat, 2, opposite(cat)}, {cat, cat, 3, opposite(cat)}, {s, s, 3, opposite(one)},
		{one, one, 1, impl.Matrix{-1, -1, 0, -1}}, {one, one, 3, impl.Matrix{-3, -2, -1, -1}},
		{cat, opposed(cat), 1, s}, {cat, opposed(cat), 2, impl.Matrix{-1, -1, 2, 1}}, {cat, opposed(cat), 3, impl.Matrix{-1, -1, 2, 1}},
		// The products on the way are beyond the limit.
		{powerOfT(most), powerOfT(most), 1, impl.Matrix{-1, -1, 0, -1}}, {powerOfT(most), powerOfT(most), 3, impl.Matrix{-1, -3, 0, -1}},
		{impl.Matrix{1, 0, most, 1}, powerOfT(least), 1, impl.Matrix{-1, -1, 1, 0}},
	} {
		g, code := impl.FirstConjugator(c.m, c.n, c.k)
		wantMatrix(t, fmt.Sprintf("FirstConjugator(%v, %v, %d)", c.m, c.n, c.k), g, code, c.want)
	}
	far, _ := conjugated(cat, powerOfT(9))
	for _, c := range []struct {
		m, n impl.Matrix
		k    int64
	}{
		// There are no matrices within 0.
		{cat, cat, 0}, {one, one, 0}, {powerOfT(1), powerOfT(-1), 3}, {s, opposite(s), 3}, {s, u, 3}, {one, opposite(one), 3}, {cat, far, 3},
		{powerOfT(most), impl.Matrix{1, 0, most, 1}, 3}, {cat, powerOfT(1), 3},
	} {
		g, code := impl.FirstConjugator(c.m, c.n, c.k)
		wantNoMatrix(t, fmt.Sprintf("FirstConjugator(%v, %v, %d)", c.m, c.n, c.k), g, code, impl.ErrNotFound)
	}
}

func TestFirstConjugatorRefuses(t *testing.T) {
	for _, k := range append(beyond(), -1, -2, -3, 4, 5, 100) {
		for _, n := range []impl.Matrix{cat, s, opposite(cat)} {
			g, code := impl.FirstConjugator(cat, n, k)
			wantNoMatrix(t, fmt.Sprintf("FirstConjugator(%v, %v, %d)", cat, n, k), g, code, impl.ErrRange)
		}
		for _, bad := range badMatrices() {
			g, code := impl.FirstConjugator(bad, cat, k)
			wantNoMatrix(t, fmt.Sprintf("FirstConjugator(%v, %v, %d)", bad, cat, k), g, code, impl.ErrInvalid)
			g, code = impl.FirstConjugator(cat, bad, k)
			wantNoMatrix(t, fmt.Sprintf("FirstConjugator(%v, %v, %d)", cat, bad, k), g, code, impl.ErrInvalid)
		}
	}
}

// wantRootOfPowers asks for all powers within the limit.
func wantRootOfPowers(t *testing.T, root impl.Matrix) {
	t.Helper()
	power, within := root, true
	for k := int64(1); within; k++ {
		wantRoot(t, power, root, k)
		wantRoot(t, opposite(power), root, k)
		power, within = exactProduct(power, root)
	}
}

func TestRootOf(t *testing.T) {
	wantRoot(t, impl.Matrix{5, 3, 3, 2}, cat, 2)
	wantRoot(t, opposite(impl.Matrix{5, 3, 3, 2}), cat, 2)
	wantRoot(t, impl.Matrix{2, -3, -3, 5}, opposed(cat), 2)
	for _, word := range hyperbolicWords(9) {
		if isRepeated(word) {
			continue
		}
		root, _ := exactWord(word)
		wantRootOfPowers(t, root)
		wantRootOfPowers(t, opposed(root))
	}
}

func TestRootsOfConjugateMatrices(t *testing.T) {
	for _, word := range []string{"LT", "LLT", "LTT", "LLTT", "LLTLT", "LLTTLT", "LLLLLLLTTTTTTTTT", "LLTLTTLTTTLLTLTT"} {
		first, _ := exactWord(word)
		for _, root := range conjugatesOf(t, first) {
			wantRootOfPowers(t, root)
		}
	}
}

func TestRootsOfGreatMatrices(t *testing.T) {
	for _, free := range wordsBeyondTheLimit() {
		m := matrixOfFree(t, free)
		if m[0]+m[3] < 0 {
			m = opposite(m)
		}
		wantRootOfPowers(t, m)
		wantRootOfPowers(t, opposed(m))
	}
	for _, root := range []impl.Matrix{
		{most, most - 1, 1, 1}, {1, 1, most - 1, most}, {most - 1, least, 2 - most, most - 1}, {0, -1, 1, most}, {0, 1, -1, most},
		{1, 31621, 31621, 31621*31621 + 1}, {1, 100, 200, 20001}, {101, 100, 1, 1}, {0, 1, -1, 31622}, {0, -1, 1, 31622}, {0, -1, 1, 1000}, {0, 1, -1, 3},
		{10001, 100, 100, 1}, {1, 1, 1999, 2000}, {999, 998, 1, 1}, {0, -1, 1, 999}, {0, 1, -1, 62}, {0, -1, 1, 178},
	} {
		wantRootOfPowers(t, root)
	}
	// With the trace of a square, or of a cube, but without a root.
	for _, m := range []impl.Matrix{
		{0, -1, 1, 7}, {1, 1, 5, 6}, {1, 5, 1, 6}, {0, 1, -1, 18}, {1, 1, 16, 17}, {0, -1, 1, 31622*31622 - 2}, {0, 1, -1, 999997000},
	} {
		wantRoot(t, m, m, 1)
		wantRoot(t, opposite(m), m, 1)
	}
	// The greatest exponent within the limit.
	wantRoot(t, impl.Matrix{433494437, 267914296, 267914296, 165580141}, cat, 21)
}

func TestRootsHaveTheMatricesAsPowers(t *testing.T) {
	count := 0
	for _, m := range append(someMatrices(t, 3), wordMatrices()...) {
		if kind, _ := impl.KindOf(m); kind != 3 {
			continue
		}
		count++
		root, exponent, code := impl.RootOf(m)
		power, within := powerStepByStep(root, exponent)
		if code != impl.ErrNone || exponent < 1 || root[0]+root[3] <= 2 || !within || power != m && power != opposite(m) {
			t.Errorf("RootOf(%v) = %v, %d, %d", m, root, exponent, code)
		}
		word, code := impl.CyclicWord(m)
		short, shortCode := impl.CyclicWord(root)
		if code == impl.ErrNone && (shortCode != impl.ErrNone || strings.Repeat(short, int(exponent)) != word || isRepeated(short)) {
			t.Errorf("RootOf(%v) has the exponent %d and the cyclic word %q of %q", m, exponent, short, word)
		}
	}
	if count < 300 {
		t.Errorf("there are only %d matrices of the kind 3", count)
	}
}

func TestReciprocalAndMirrored(t *testing.T) {
	wantSymmetries(t, cat, true, true)
	kinds := map[[2]bool]int{}
	for _, word := range hyperbolicWords(12) {
		m, _ := exactWord(word)
		turns := turnsOf(word)
		// The inverse has the letters turned about and exchanged, the mirrored one just exchanged.
		reciprocal := slices.Contains(turns, exchanged(backwards(word)))
		mirrored := slices.Contains(turns, exchanged(word))
		kinds[[2]bool{reciprocal, mirrored}]++
		wantSymmetries(t, m, reciprocal, mirrored)
		wantSymmetries(t, opposite(m), reciprocal, mirrored)
		wantSymmetries(t, opposed(m), reciprocal, mirrored)
		wantSymmetries(t, reflected(m), reciprocal, mirrored)
	}
	if len(kinds) != 4 {
		t.Errorf("the words have only these symmetries: %v", kinds)
	}
}

func TestReciprocalAndMirroredForSmallMatrices(t *testing.T) {
	list, _ := impl.MatricesWithin(3)
	for _, m := range list {
		if trace := m[0] + m[3]; trace > 2 || trace < -2 {
			reached := reachedFrom(m, 40)
			wantSymmetries(t, m, reached[opposed(m)], reached[reflected(m)])
		}
	}
}

func TestReciprocalAndMirroredForConjugateMatrices(t *testing.T) {
	for word, want := range map[string][2]bool{
		"LT": {true, true}, "LLT": {false, false}, "LTT": {false, false}, "LLTT": {true, true}, "LLLTT": {false, false},
		"LLTLTT": {true, false}, "LLLTTLTTTLLT": {false, true},
	} {
		m, _ := exactWord(word)
		for _, n := range conjugatesOf(t, m) {
			if free, code := impl.FreeWord(n); code == impl.ErrNone && len(free) <= impl.MaxLetters-2 {
				wantSymmetries(t, n, want[0], want[1])
				wantSymmetries(t, opposite(n), want[0], want[1])
			}
		}
	}
}

func TestReciprocalAndMirroredAtTheLimit(t *testing.T) {
	for free, word := range wordsAtTheLimit() {
		m := matrixOfFree(t, free)
		answer, code := impl.IsReciprocal(m)
		wantAnswer(t, fmt.Sprintf("IsReciprocal(%v)", m), answer, code, slices.Contains(turnsOf(word), exchanged(backwards(word))))
		answer, code = impl.IsMirrored(m)
		what := fmt.Sprintf("IsMirrored(%v)", m)
		if len(free) == impl.MaxLetters-1 && free[0] != 'S' && free[len(free)-1] != 'S' {
			// The free word of the mirrored one, which is asked for, too, has an S more at both ends.
			wantNoAnswer(t, what, answer, code, impl.ErrLimit)
		} else {
			wantAnswer(t, what, answer, code, slices.Contains(turnsOf(word), exchanged(word)))
		}
	}
	for _, free := range wordsBeyondTheLimit() {
		m := matrixOfFree(t, free)
		for _, n := range []impl.Matrix{m, opposite(m), opposed(m)} {
			answer, code := impl.IsReciprocal(n)
			wantNoAnswer(t, fmt.Sprintf("IsReciprocal(%v)", n), answer, code, impl.ErrLimit)
			answer, code = impl.IsMirrored(n)
			wantNoAnswer(t, fmt.Sprintf("IsMirrored(%v)", n), answer, code, impl.ErrLimit)
		}
	}
}

// cyclicWordsByTrace has the cyclic words of all matrices of the kind 3 with traces up to the limit.
// No letter behind a positive matrix makes its trace less, and a word of n letters with both L and T
// has a trace of at least n + 1.
func cyclicWordsByTrace(limit int64) map[int64]map[string]impl.Matrix {
	found := map[int64]map[string]impl.Matrix{}
	var extend func(word string, m impl.Matrix)
	extend = func(word string, m impl.Matrix) {
		trace := m[0] + m[3]
		if trace > limit || int64(len(word)) >= limit {
			return
		}
		if trace > 2 && word == leastTurn(word) {
			if found[trace] == nil {
				found[trace] = map[string]impl.Matrix{}
			}
			found[trace][word] = m
		}
		extend(word+"L", impl.Matrix{m[0] + m[1], m[1], m[2] + m[3], m[3]})
		extend(word+"T", impl.Matrix{m[0], m[0] + m[1], m[2], m[2] + m[3]})
	}
	// Each cyclic word begins with L.
	extend("L", impl.Matrix{1, 0, 1, 1})
	return found
}

func TestClassesOfTrace(t *testing.T) {
	words := cyclicWordsByTrace(impl.MaxTrace)
	for trace := int64(3); trace <= impl.MaxTrace; trace++ {
		var want []impl.Matrix
		for _, m := range words[trace] {
			want = append(want, m)
		}
		slices.SortFunc(want, func(m, n impl.Matrix) int { return slices.Compare(m[:], n[:]) })
		list, code := impl.ClassesOfTrace(trace)
		if !slices.Equal(list, want) || code != impl.ErrNone || len(list) == 0 {
			t.Errorf("ClassesOfTrace(%d) = %v, %d, not %v", trace, list, code, want)
		}
	}
	for trace, want := range map[int64][]impl.Matrix{
		3: {{1, 1, 1, 2}}, 4: {{1, 1, 2, 3}, {1, 2, 1, 3}}, 5: {{1, 1, 3, 4}, {1, 3, 1, 4}},
		6: {{1, 1, 4, 5}, {1, 2, 2, 5}, {1, 4, 1, 5}}, 7: {{1, 1, 5, 6}, {1, 5, 1, 6}, {2, 3, 3, 5}},
	} {
		list, code := impl.ClassesOfTrace(trace)
		if !slices.Equal(list, want) || code != impl.ErrNone {
			t.Errorf("ClassesOfTrace(%d) = %v, %d, not %v", trace, list, code, want)
		}
	}
}

// Promise 12: the first matrices are positive, and their positive words are their cyclic words.
func TestFirstMatricesAreThoseOfTheirCyclicWords(t *testing.T) {
	for trace := int64(3); trace <= impl.MaxTrace; trace++ {
		list, _ := impl.ClassesOfTrace(trace)
		met := map[string]bool{}
		for _, m := range list {
			word, code := impl.CyclicWord(m)
			positive, positiveCode := impl.PositiveWord(m)
			back, backCode := impl.MatrixOfWord(word)
			if code != impl.ErrNone || positiveCode != impl.ErrNone || backCode != impl.ErrNone || word != positive || back != m {
				t.Errorf("%v has the cyclic word %q, and the positive word %q", m, word, positive)
			}
			if m[0]+m[3] != trace || met[word] {
				t.Errorf("ClassesOfTrace(%d) has %v with the cyclic word %q", trace, m, word)
			}
			met[word] = true
		}
	}
}

func TestClassesHaveEachMatrixJustOnce(t *testing.T) {
	for trace := int64(3); trace <= 20; trace++ {
		list, _ := impl.ClassesOfTrace(trace)
		for a := int64(1); a < trace; a++ {
			for b := int64(1); b < a*(trace-a); b++ {
				m := impl.Matrix{a, b, (a*(trace-a) - 1) / b, trace - a}
				if !impl.IsMatrix(m) {
					continue
				}
				count := 0
				for _, n := range list {
					if answer, code := impl.AreConjugate(m, n); answer && code == impl.ErrNone {
						count++
					}
				}
				if count != 1 {
					t.Errorf("%v is conjugate to %d of the first matrices of the trace %d", m, count, trace)
				}
			}
		}
	}
}

func TestClassesOfTraceRefuses(t *testing.T) {
	for _, trace := range append(beyond(), 2, 1, 0, -1, -2, -3, -4, -60, impl.MaxTrace+1, impl.MaxTrace+2, 100) {
		list, code := impl.ClassesOfTrace(trace)
		if len(list) != 0 || code != impl.ErrRange {
			t.Errorf("ClassesOfTrace(%d) = %v, %d, not the error %d", trace, list, code, impl.ErrRange)
		}
	}
}

func TestClassesOfTraceAreNew(t *testing.T) {
	list, _ := impl.ClassesOfTrace(6)
	want := slices.Clone(list)
	for i := range list {
		list[i] = impl.Matrix{}
	}
	if again, code := impl.ClassesOfTrace(6); !slices.Equal(again, want) || code != impl.ErrNone {
		t.Errorf("ClassesOfTrace(6) = %v, %d, not %v", again, code, want)
	}
}

// Promise 4, but for the roots.
func TestConjugateMatricesHaveTheSameTracesAndCyclicWords(t *testing.T) {
	for _, m := range wordMatrices() {
		word, code := impl.CyclicWord(m)
		if code != impl.ErrNone {
			continue
		}
		first, _ := exactWord(word)
		if trace := m[0] + m[3]; first[0]+first[3] != trace && first[0]+first[3] != -trace {
			t.Errorf("%v has the cyclic word %q, whose matrix is %v", m, word, first)
		}
		for _, g := range []impl.Matrix{s, u, v, powerOfT(1), powerOfT(-2), {1, 0, 3, 1}, cat, opposite(cat)} {
			n, code := impl.ConjugateBy(m, g)
			if code != impl.ErrNone {
				continue
			}
			other, code := impl.CyclicWord(n)
			same := code == impl.ErrNone && other == word || code == impl.ErrLimit
			if !same || m[0]+m[3] != n[0]+n[3] {
				t.Errorf("%v has the cyclic word %q, and %v has %q, %d", m, word, n, other, code)
			}
		}
	}
}

func wantNothingOfTheKind3(t *testing.T, m impl.Matrix, want int64) {
	t.Helper()
	word, code := impl.CyclicWord(m)
	wantNoText(t, fmt.Sprintf("CyclicWord(%v)", m), word, code, want)
	wantNoRoot(t, m, want)
	answer, code := impl.IsReciprocal(m)
	wantNoAnswer(t, fmt.Sprintf("IsReciprocal(%v)", m), answer, code, want)
	answer, code = impl.IsMirrored(m)
	wantNoAnswer(t, fmt.Sprintf("IsMirrored(%v)", m), answer, code, want)
}

func TestMatricesOfAnotherKind(t *testing.T) {
	list := append(someMatrices(t, 3), wordMatrices()...)
	// ErrState comes ahead of ErrLimit: these have long free words.
	list = append(list, powerOfT(101), opposite(powerOfT(101)), impl.Matrix{1, 0, most, 1}, impl.Matrix{-31621, 999950884, -1, 31623},
		impl.Matrix{31622, -999950885, 1, -31622}, impl.Matrix{31623, -999982507, 1, -31622})
	for _, m := range list {
		kind, _ := impl.KindOf(m)
		if kind != 1 {
			name, code := impl.EllipticName(m)
			wantNoText(t, fmt.Sprintf("EllipticName(%v)", m), name, code, impl.ErrState)
		}
		if kind != 2 {
			shift, code := impl.ParabolicShift(m)
			wantNoNumber(t, fmt.Sprintf("ParabolicShift(%v)", m), shift, code, impl.ErrState)
		}
		if kind != 3 {
			wantNothingOfTheKind3(t, m, impl.ErrState)
		}
	}
}

func TestWhatIsNoMatrixOfClasses(t *testing.T) {
	long := matrixOfFree(t, wordsBeyondTheLimit()[0])
	for _, bad := range badMatrices() {
		name, code := impl.EllipticName(bad)
		wantNoText(t, fmt.Sprintf("EllipticName(%v)", bad), name, code, impl.ErrInvalid)
		shift, code := impl.ParabolicShift(bad)
		wantNoNumber(t, fmt.Sprintf("ParabolicShift(%v)", bad), shift, code, impl.ErrInvalid)
		wantNothingOfTheKind3(t, bad, impl.ErrInvalid)
		for _, m := range []impl.Matrix{bad, one, s, powerOfT(1), cat, long} {
			wantNoConjugate(t, bad, m, impl.ErrInvalid)
			for k := range int64(4) {
				g, code := impl.FirstConjugator(bad, m, k)
				wantNoMatrix(t, fmt.Sprintf("FirstConjugator(%v, %v, %d)", bad, m, k), g, code, impl.ErrInvalid)
				g, code = impl.FirstConjugator(m, bad, k)
				wantNoMatrix(t, fmt.Sprintf("FirstConjugator(%v, %v, %d)", m, bad, k), g, code, impl.ErrInvalid)
			}
		}
	}
}
