package tests

import (
	"fmt"
	"math/big"
	"math/rand"
	"slices"
	"strings"
	"testing"

	"loop.example/g01380/impl"
)

func powerOfT(k int64) impl.Matrix {
	return impl.Matrix{1, k, 0, 1}
}

func opposite(m impl.Matrix) impl.Matrix {
	return impl.Matrix{-m[0], -m[1], -m[2], -m[3]}
}

// lettersOfWords has the letters of both kinds of words.
func lettersOfWords() map[byte]impl.Matrix {
	return map[byte]impl.Matrix{
		'S': s, 'T': {1, 1, 0, 1}, 't': {1, -1, 0, 1}, 'L': {1, 0, 1, 1}, 'l': {1, 0, -1, 1}, 'U': u, 'V': {0, -1, 1, -1},
	}
}

// exactProducts multiplies from the left, and tells whether all products are within MaxEntry.
func exactProducts(factors ...impl.Matrix) (impl.Matrix, bool) {
	product := one
	for _, m := range factors {
		var within bool
		if product, within = exactProduct(product, m); !within {
			return impl.Matrix{}, false
		}
	}
	return product, true
}

func exactWord(word string) (impl.Matrix, bool) {
	letters := lettersOfWords()
	var factors []impl.Matrix
	for i := range len(word) {
		factors = append(factors, letters[word[i]])
	}
	return exactProducts(factors...)
}

// wordsOf has all words of at most n of the letters, the empty one first.
func wordsOf(letters string, n int) []string {
	list := []string{""}
	for begin := 0; n > 0; n-- {
		end := len(list)
		for _, word := range list[begin:end] {
			for _, letter := range letters {
				list = append(list, word+string(letter))
			}
		}
		begin = end
	}
	return list
}

// freeWordsOf has all free words of at most n letters.
func freeWordsOf(n int) []string {
	return slices.DeleteFunc(wordsOf("SUV", n), func(word string) bool {
		for i := 1; i < len(word); i++ {
			if (word[i-1] == 'S') == (word[i] == 'S') {
				return true
			}
		}
		return false
	})
}

// countRuns tells the runs of a word of L and T letter by letter.
func countRuns(word string) []int64 {
	if word == "" {
		return nil
	}
	runs := []int64{0}
	current := byte('T')
	for i := range len(word) {
		if word[i] != current {
			current = word[i]
			runs = append(runs, 0)
		}
		runs[len(runs)-1]++
	}
	return runs
}

// chainAsTold follows the definition, with numbers that cannot overflow.
func chainAsTold(t *testing.T, m impl.Matrix) (int64, []int64) {
	t.Helper()
	var list []int64
	for m[2] != 0 {
		x := new(big.Rat).Add(big.NewRat(m[0], m[2]), big.NewRat(1, 2))
		// The second number of a big.Rat is greater than 0, so Div rounds down.
		q := new(big.Int).Div(x.Num(), x.Denom()).Int64()
		list = append(list, q)
		turned, _ := exactProduct(impl.Matrix{0, 1, -1, 0}, powerOfT(-q))
		var within bool
		if m, within = exactProduct(turned, m); !within {
			t.Fatalf("the chain as told leads to %v", m)
		}
	}
	return m[0], append(list, m[0]*m[1])
}

// wordMatrices has matrices of many sizes: those of seeded words of all letters, and the greatest
// ones on the way to the limit.
func wordMatrices() []impl.Matrix {
	random := rand.New(rand.NewSource(2))
	letters := []impl.Matrix{s, {1, 1, 0, 1}, {1, -1, 0, 1}, {1, 0, 1, 1}, {1, 0, -1, 1}}
	var list []impl.Matrix
	for range 400 {
		m := one
		for range 1 + random.Intn(100) {
			next, within := exactProduct(m, letters[random.Intn(len(letters))])
			if !within {
				break
			}
			m = next
		}
		list = append(list, m)
	}
	for range 400 {
		m := one
		for range 1 + random.Intn(12) {
			q := random.Int63n(1 << random.Intn(20))
			next, within := exactProducts(m, powerOfT(q*int64(1-2*random.Intn(2))), s)
			if !within {
				break
			}
			m = next
		}
		list = append(list, m)
	}
	return list
}

// limitMatrix has MaxEntry as its first number, and few letters.
func limitMatrix(t *testing.T) impl.Matrix {
	t.Helper()
	for c := int64(618033988); c > 0; c-- {
		inverse := new(big.Int).ModInverse(big.NewInt(most), big.NewInt(c))
		if inverse == nil {
			continue
		}
		d := inverse.Int64()
		m := impl.Matrix{most, (most*d - 1) / c, c, d}
		if word, code := impl.PositiveWord(m); code == impl.ErrNone && len(word) < 90 {
			return m
		}
	}
	t.Fatal("there is no limit matrix")
	return impl.Matrix{}
}

func wantChain(t *testing.T, m impl.Matrix, wantSign int64, want []int64) {
	t.Helper()
	sign, list, code := impl.ChainOf(m)
	if sign != wantSign || !slices.Equal(list, want) || code != impl.ErrNone {
		t.Errorf("ChainOf(%v) = %d, %v, %d, not %d, %v", m, sign, list, code, wantSign, want)
	}
}

func wantPositive(t *testing.T, m impl.Matrix, want bool) {
	t.Helper()
	if positive, code := impl.IsPositive(m); positive != want || code != impl.ErrNone {
		t.Errorf("IsPositive(%v) = %t, %d, not %t", m, positive, code, want)
	}
}

func TestMaxLetters(t *testing.T) {
	if impl.MaxLetters != 200 {
		t.Errorf("MaxLetters is %d", impl.MaxLetters)
	}
}

func TestMatrixOfWord(t *testing.T) {
	for _, word := range wordsOf("STtLl", 5) {
		want, _ := exactWord(word)
		m, code := impl.MatrixOfWord(word)
		wantMatrix(t, fmt.Sprintf("MatrixOfWord(%q)", word), m, code, want)
	}
	for _, c := range []struct {
		word string
		want impl.Matrix
	}{
		{"", one}, {"S", s}, {"T", impl.Matrix{1, 1, 0, 1}}, {"t", impl.Matrix{1, -1, 0, 1}},
		{"L", impl.Matrix{1, 0, 1, 1}}, {"l", impl.Matrix{1, 0, -1, 1}}, {"TL", cat}, {"TS", u}, {"ST", impl.Matrix{0, -1, 1, 1}},
		{strings.Repeat("T", 200), powerOfT(200)}, {strings.Repeat("t", 200), powerOfT(-200)},
		{strings.Repeat("L", 200), impl.Matrix{1, 0, 200, 1}}, {strings.Repeat("l", 200), impl.Matrix{1, 0, -200, 1}},
		{strings.Repeat("S", 200), one}, {strings.Repeat("S", 199), impl.Matrix{0, 1, -1, 0}},
		{strings.Repeat("TL", 21) + strings.Repeat("lt", 21), one},
	} {
		m, code := impl.MatrixOfWord(c.word)
		wantMatrix(t, fmt.Sprintf("MatrixOfWord(%q)", c.word), m, code, c.want)
	}
}

func TestMatrixOfWordAtTheLimit(t *testing.T) {
	m := limitMatrix(t)
	word, _ := impl.PositiveWord(m)
	for _, c := range []struct {
		ahead, behind string
		want          impl.Matrix
	}{
		{"", "", m}, {"S", "", impl.Matrix{-m[2], -m[3], m[0], m[1]}}, {"SS", "", opposite(m)},
		{"SSS", "", impl.Matrix{m[2], m[3], -m[0], -m[1]}}, {"", "S", impl.Matrix{m[1], -m[0], m[3], -m[2]}},
	} {
		w := c.ahead + word + c.behind
		product, code := impl.MatrixOfWord(w)
		wantMatrix(t, fmt.Sprintf("MatrixOfWord(%q)", w), product, code, c.want)
	}
	for _, w := range []string{
		word + "L", word + "LlS", "SS" + word + "L", word + "St", "S" + word + "Ll",
		strings.Repeat("TL", 22) + "T", strings.Repeat("TL", 100), strings.Repeat("LT", 100),
		// Both lead back to the identity.
		strings.Repeat("TL", 23) + strings.Repeat("lt", 23), strings.Repeat("tl", 23) + strings.Repeat("LT", 23),
	} {
		product, code := impl.MatrixOfWord(w)
		wantNoMatrix(t, fmt.Sprintf("MatrixOfWord(%q)", w), product, code, impl.ErrLimit)
	}
}

func TestMatrixOfWordRefuses(t *testing.T) {
	great := strings.Repeat("TL", 50)
	for _, word := range []string{
		"U", "V", "I", "s", "u", "R", "0", " ", "\n", "\x00", "\xff", "-S", "S ", " S", "ST\n", "TxL", "S,T", "\u017f", "T\u0301",
		great + "x", "x" + great, great + " ", great + great + "T", great + great + "x",
		strings.Repeat("T", 201), strings.Repeat("S", 201), strings.Repeat("TL", 101), strings.Repeat("x", 200), strings.Repeat("S", 1000),
	} {
		m, code := impl.MatrixOfWord(word)
		wantNoMatrix(t, fmt.Sprintf("MatrixOfWord(%q)", word), m, code, impl.ErrRange)
	}
}

func TestChainOf(t *testing.T) {
	for _, c := range []struct {
		m    impl.Matrix
		sign int64
		want []int64
	}{
		{cat, 1, []int64{2, 1}},
		// c is 0.
		{one, 1, []int64{0}}, {opposite(one), -1, []int64{0}}, {powerOfT(most), 1, []int64{most}}, {powerOfT(least), 1, []int64{least}},
		{impl.Matrix{-1, 5, 0, -1}, -1, []int64{-5}}, {impl.Matrix{-1, least, 0, -1}, -1, []int64{most}},
		// c is less than 0.
		{s, 1, []int64{0, 0}}, {opposite(s), -1, []int64{0, 0}}, {opposite(cat), -1, []int64{2, 1}},
		{impl.Matrix{2, -1, -1, 1}, -1, []int64{-2, -1}}, {impl.Matrix{1, 0, -3, 1}, -1, []int64{0, 3, 0}},
		{impl.Matrix{most, 1, -1, 0}, -1, []int64{least, 0}}, {impl.Matrix{least, 1, -1, 0}, -1, []int64{most, 0}},
		// a / c + 1/2 is a whole number.
		{impl.Matrix{1, 0, 2, 1}, 1, []int64{1, 2, 1}}, {impl.Matrix{-1, 0, -2, -1}, -1, []int64{1, 2, 1}},
		{impl.Matrix{1, 0, -2, 1}, -1, []int64{0, 2, 0}}, {impl.Matrix{-1, 0, 2, -1}, 1, []int64{0, 2, 0}},
		{impl.Matrix{3, 1, 2, 1}, 1, []int64{2, 2, 1}}, {impl.Matrix{-3, 1, 2, -1}, 1, []int64{-1, 2, 0}},
		{impl.Matrix{5, 2, 2, 1}, 1, []int64{3, 2, 1}}, {impl.Matrix{-5, 2, 2, -1}, 1, []int64{-2, 2, 0}},
	} {
		sign, list := chainAsTold(t, c.m)
		if sign != c.sign || !slices.Equal(list, c.want) {
			t.Errorf("the chain of %v as told is %d, %v, not %d, %v", c.m, sign, list, c.sign, c.want)
		}
		wantChain(t, c.m, c.sign, c.want)
	}
	for _, m := range append(someMatrices(t, 3), wordMatrices()...) {
		sign, list := chainAsTold(t, m)
		wantChain(t, m, sign, list)
	}
}

func TestMatricesComeBackFromTheirChains(t *testing.T) {
	list := append(someMatrices(t, 3), wordMatrices()...)
	limit := limitMatrix(t)
	list = append(list, limit, opposite(limit), impl.Matrix{-limit[2], -limit[3], limit[0], limit[1]}, impl.Matrix{limit[1], -limit[0], limit[3], -limit[2]})
	for _, m := range list {
		sign, chain, code := impl.ChainOf(m)
		if code != impl.ErrNone {
			t.Errorf("ChainOf(%v) has the code %d", m, code)
			continue
		}
		back, code := impl.MatrixOfChain(sign, chain)
		wantMatrix(t, fmt.Sprintf("MatrixOfChain(%d, %v)", sign, chain), back, code, m)
	}
}

func TestMatrixOfChain(t *testing.T) {
	numbers := []int64{-3, -1, 0, 1, 2}
	lists := [][]int64{{most}, {least}, {most, 0, 0}, {0, most, 0}, {most, 1}, {least, -1}}
	for _, q := range numbers {
		lists = append(lists, []int64{q})
		for _, r := range numbers {
			lists = append(lists, []int64{q, r})
			for _, x := range numbers {
				lists = append(lists, []int64{q, r, x})
			}
		}
	}
	lists = append(lists, make([]int64, 100), slices.Repeat([]int64{1}, 100), slices.Repeat([]int64{2}, 100), slices.Repeat([]int64{-2}, 100))
	for _, list := range lists {
		for _, sign := range []int64{1, -1} {
			factors := []impl.Matrix{{sign, 0, 0, sign}, powerOfT(list[0])}
			for _, q := range list[1:] {
				factors = append(factors, s, powerOfT(q))
			}
			want, within := exactProducts(factors...)
			if !within {
				t.Fatalf("%v is not within the limit", list)
			}
			m, code := impl.MatrixOfChain(sign, list)
			wantMatrix(t, fmt.Sprintf("MatrixOfChain(%d, %v)", sign, list), m, code, want)
		}
	}
}

func TestMatrixOfChainRefuses(t *testing.T) {
	for _, sign := range []int64{0, 2, -2, 1<<63 - 1, -1 << 63} {
		for _, list := range [][]int64{{0}, {2, 1}, {most, 2}, nil, {most + 1}} {
			m, code := impl.MatrixOfChain(sign, list)
			wantNoMatrix(t, fmt.Sprintf("MatrixOfChain(%d, %v)", sign, list), m, code, impl.ErrRange)
		}
	}
	lists := [][]int64{nil, {}, make([]int64, 101), slices.Repeat([]int64{3}, 101), make([]int64, 1000)}
	for _, x := range beyond() {
		// The last two are beyond the limit ahead of the number that is not as told.
		lists = append(lists, []int64{x}, []int64{0, x}, []int64{x, 0}, []int64{most, most, x}, append(slices.Repeat([]int64{5}, 99), x))
	}
	for _, list := range lists {
		for _, sign := range []int64{1, -1} {
			m, code := impl.MatrixOfChain(sign, list)
			wantNoMatrix(t, fmt.Sprintf("MatrixOfChain(%d, %v)", sign, list), m, code, impl.ErrRange)
		}
	}
	for _, list := range [][]int64{
		{most, 2}, {least, 2}, {most, -1}, {2, most}, {most, most}, {0, most, 2}, {1, 2, least}, slices.Repeat([]int64{3}, 100),
		// These lead back to the identity, or the opposite one.
		{most, 2, 0, -2, least}, {least, 2, 0, -2, most}, {0, most, 2, 0, -2, least, 0},
		append(append(slices.Repeat([]int64{3}, 30), 0), slices.Repeat([]int64{-3}, 30)...),
	} {
		for _, sign := range []int64{1, -1} {
			m, code := impl.MatrixOfChain(sign, list)
			wantNoMatrix(t, fmt.Sprintf("MatrixOfChain(%d, %v)", sign, list), m, code, impl.ErrLimit)
		}
	}
}

func TestIsPositive(t *testing.T) {
	for _, m := range append(someMatrices(t, 3), wordMatrices()...) {
		wantPositive(t, m, m[0] >= 0 && m[1] >= 0 && m[2] >= 0 && m[3] >= 0)
	}
	for _, m := range []impl.Matrix{one, cat, {1, most, 0, 1}, {1, 0, most, 1}, {most, most - 1, 1, 1}} {
		wantPositive(t, m, true)
		wantPositive(t, opposite(m), false)
	}
}

func TestPositiveWordsAndRuns(t *testing.T) {
	for _, word := range append(wordsOf("LT", 11),
		strings.Repeat("T", 200), strings.Repeat("L", 200), strings.Repeat("T", 199)+"L", strings.Repeat("L", 100)+strings.Repeat("T", 100),
		strings.Repeat("TL", 21), strings.Repeat("LT", 21), strings.Repeat("T", 66)+strings.Repeat("L", 67)+strings.Repeat("T", 67),
	) {
		m, within := exactWord(word)
		if !within {
			t.Fatalf("%s is not within the limit", word)
		}
		wantPositive(t, m, true)
		text, code := impl.PositiveWord(m)
		wantText(t, fmt.Sprintf("PositiveWord(%v)", m), text, code, word)
		runs, code := impl.RunsOf(m)
		wantList(t, fmt.Sprintf("RunsOf(%v)", m), runs, code, countRuns(word))
		back, code := impl.MatrixOfWord(word)
		wantMatrix(t, fmt.Sprintf("MatrixOfWord(%q)", word), back, code, m)
		back, code = impl.MatrixOfRuns(countRuns(word))
		wantMatrix(t, fmt.Sprintf("MatrixOfRuns(%v)", countRuns(word)), back, code, m)
	}
}

func TestPositiveMatricesComeBack(t *testing.T) {
	count := 0
	for _, m := range append(wordMatrices(), limitMatrix(t)) {
		for i, x := range m {
			m[i] = max(x, -x)
		}
		// Turned signs on both sides of the diagonal keep the determinant, others may not.
		if m[0]*m[3]-m[1]*m[2] != 1 {
			continue
		}
		count++
		runs, code := impl.RunsOf(m)
		if code != impl.ErrNone {
			t.Errorf("RunsOf(%v) has the code %d", m, code)
			continue
		}
		back, code := impl.MatrixOfRuns(runs)
		wantMatrix(t, fmt.Sprintf("MatrixOfRuns(%v)", runs), back, code, m)
		letters := int64(0)
		for _, n := range runs {
			letters += n
		}
		word, code := impl.PositiveWord(m)
		if letters > impl.MaxLetters {
			wantNoText(t, fmt.Sprintf("PositiveWord(%v)", m), word, code, impl.ErrLimit)
			continue
		}
		if !slices.Equal(countRuns(word), runs) || code != impl.ErrNone {
			t.Errorf("PositiveWord(%v) = %q, %d, but the runs are %v", m, word, code, runs)
		}
		back, code = impl.MatrixOfWord(word)
		wantMatrix(t, fmt.Sprintf("MatrixOfWord(%q)", word), back, code, m)
	}
	if count < 100 {
		t.Errorf("there are only %d positive matrices", count)
	}
}

func TestPositiveWordAndRunsRefuse(t *testing.T) {
	// The words of the opposite matrices of some would be too long.
	for _, m := range append(someMatrices(t, 3), powerOfT(-1), powerOfT(-201), powerOfT(least), opposite(powerOfT(201)), impl.Matrix{most, -1, 1, 0}) {
		if m[0] >= 0 && m[1] >= 0 && m[2] >= 0 && m[3] >= 0 {
			continue
		}
		word, code := impl.PositiveWord(m)
		wantNoText(t, fmt.Sprintf("PositiveWord(%v)", m), word, code, impl.ErrState)
		runs, code := impl.RunsOf(m)
		wantNoList(t, fmt.Sprintf("RunsOf(%v)", m), runs, code, impl.ErrState)
	}
}

func TestPositiveWordTooLong(t *testing.T) {
	for _, c := range []struct {
		m    impl.Matrix
		runs []int64
	}{
		{powerOfT(201), []int64{201}}, {impl.Matrix{1, 0, 201, 1}, []int64{0, 201}},
		{impl.Matrix{1, 200, 1, 201}, []int64{0, 1, 200}}, {impl.Matrix{10101, 101, 100, 1}, []int64{101, 100}},
		{powerOfT(most), []int64{most}}, {impl.Matrix{1, 0, most, 1}, []int64{0, most}},
		{impl.Matrix{most, most - 1, 1, 1}, []int64{most - 1, 1}}, {impl.Matrix{1, 1, most - 1, most}, []int64{0, most - 1, 1}},
		{impl.Matrix{1, most - 1, 1, most}, []int64{0, 1, most - 1}},
	} {
		runs, code := impl.RunsOf(c.m)
		wantList(t, fmt.Sprintf("RunsOf(%v)", c.m), runs, code, c.runs)
		word, code := impl.PositiveWord(c.m)
		wantNoText(t, fmt.Sprintf("PositiveWord(%v)", c.m), word, code, impl.ErrLimit)
	}
}

func TestMatrixOfRuns(t *testing.T) {
	for _, c := range []struct {
		list []int64
		want impl.Matrix
	}{
		{nil, one}, {[]int64{}, one}, {[]int64{1}, powerOfT(1)}, {[]int64{most}, powerOfT(most)}, {[]int64{1, 1}, cat},
		{[]int64{0, 1}, impl.Matrix{1, 0, 1, 1}}, {[]int64{0, most}, impl.Matrix{1, 0, most, 1}}, {[]int64{0, 1, 1}, impl.Matrix{1, 1, 1, 2}},
		{[]int64{most - 1, 1}, impl.Matrix{most, most - 1, 1, 1}}, {[]int64{0, 1, most - 1}, impl.Matrix{1, most - 1, 1, most}},
		{[]int64{31622, 31622}, impl.Matrix{999950885, 31622, 31622, 1}},
		{slices.Repeat([]int64{1}, 43), impl.Matrix{433494437, 701408733, 267914296, 433494437}},
	} {
		m, code := impl.MatrixOfRuns(c.list)
		wantMatrix(t, fmt.Sprintf("MatrixOfRuns(%v)", c.list), m, code, c.want)
	}
	for _, list := range [][]int64{
		{most, 1}, {1, most}, {most, most}, {0, 1, most}, {0, most, 1}, {31623, 31623}, {2, most / 2}, slices.Repeat([]int64{1}, 44),
		slices.Repeat([]int64{1}, 99), slices.Repeat([]int64{1}, 100), slices.Repeat([]int64{most}, 100),
		append([]int64{0}, slices.Repeat([]int64{1}, 99)...),
	} {
		m, code := impl.MatrixOfRuns(list)
		wantNoMatrix(t, fmt.Sprintf("MatrixOfRuns(%v)", list), m, code, impl.ErrLimit)
	}
}

func TestMatrixOfRunsRefuses(t *testing.T) {
	lists := [][]int64{
		{0}, {0, 0}, {0, 0, 1}, {1, 0}, {1, 0, 1}, {0, 1, 0}, {-1}, {-1, 1}, {1, -1}, {0, -1}, {1, 1, -1}, {least}, {-1 << 63}, {1, 1, 1, 0},
		{most, most, 0}, {most, most, -1}, slices.Repeat([]int64{1}, 101), slices.Repeat([]int64{most}, 101), make([]int64, 101),
		append([]int64{0}, slices.Repeat([]int64{1}, 100)...), append(slices.Repeat([]int64{1}, 99), 0),
	}
	for _, x := range beyond() {
		lists = append(lists, []int64{x}, []int64{0, x}, []int64{1, x}, []int64{x, 1}, []int64{most, most, x})
	}
	for _, list := range lists {
		m, code := impl.MatrixOfRuns(list)
		wantNoMatrix(t, fmt.Sprintf("MatrixOfRuns(%v)", list), m, code, impl.ErrRange)
	}
}

func TestFreeWords(t *testing.T) {
	for _, word := range append(freeWordsOf(10),
		strings.Repeat("US", 100), strings.Repeat("SU", 100), strings.Repeat("VS", 100), strings.Repeat("SV", 100),
		strings.Repeat("US", 99)+"U", strings.Repeat("SV", 99)+"S", strings.Repeat("US", 50)+strings.Repeat("VS", 50),
		"S"+strings.Repeat("VS", 99)+"U", strings.Repeat("USVS", 21), strings.Repeat("SVSU", 20)+"SV",
	) {
		want, within := exactWord(word)
		if !within {
			t.Fatalf("%s is not within the limit", word)
		}
		m, code := impl.MatrixOfFree(word)
		wantMatrix(t, fmt.Sprintf("MatrixOfFree(%q)", word), m, code, want)
		for _, n := range []impl.Matrix{want, opposite(want)} {
			text, code := impl.FreeWord(n)
			wantText(t, fmt.Sprintf("FreeWord(%v)", n), text, code, word)
		}
	}
	for _, c := range []struct {
		word string
		want impl.Matrix
	}{
		{"", one}, {"S", s}, {"U", u}, {"V", impl.Matrix{0, -1, 1, -1}}, {"SV", impl.Matrix{-1, 1, 0, -1}},
		{"US", powerOfT(1)}, {"VS", impl.Matrix{1, 0, 1, 1}}, {"SU", impl.Matrix{1, 0, -1, 1}}, {"USVS", cat},
	} {
		word, code := impl.FreeWord(c.want)
		wantText(t, fmt.Sprintf("FreeWord(%v)", c.want), word, code, c.word)
	}
}

func TestMatricesComeBackFromTheirFreeWords(t *testing.T) {
	tooLong := 0
	for _, m := range append(someMatrices(t, 3), wordMatrices()...) {
		word, code := impl.FreeWord(m)
		if code == impl.ErrLimit {
			wantNoText(t, fmt.Sprintf("FreeWord(%v)", m), word, code, impl.ErrLimit)
			tooLong++
			continue
		}
		back, code := impl.MatrixOfFree(word)
		if between, _ := impl.SignBetween(m, back); between == 0 || code != impl.ErrNone {
			t.Errorf("MatrixOfFree(%q) = %v, %d, not %v but for the sign", word, back, code, m)
		}
	}
	if tooLong == 0 {
		t.Error("there is no matrix with a free word that is too long")
	}
}

func TestFreeWordAtTheLimit(t *testing.T) {
	limit := limitMatrix(t)
	word, code := impl.FreeWord(limit)
	if code != impl.ErrNone {
		t.Fatalf("FreeWord(%v) has the code %d", limit, code)
	}
	for _, w := range []string{word, "S" + word, strings.TrimSuffix(word, "S")} {
		want, within := exactWord(w)
		if !within {
			t.Fatalf("%s is not within the limit", w)
		}
		m, code := impl.MatrixOfFree(w)
		wantMatrix(t, fmt.Sprintf("MatrixOfFree(%q)", w), m, code, want)
	}
	for _, w := range []string{word + "U", word + "V", "S" + word + "US", word + "VSU"} {
		m, code := impl.MatrixOfFree(w)
		wantNoMatrix(t, fmt.Sprintf("MatrixOfFree(%q)", w), m, code, impl.ErrLimit)
	}
}

func TestFreeWordTooLong(t *testing.T) {
	for _, m := range []impl.Matrix{
		// Of 201, 201 and 202 letters.
		{101, -1, 1, 0}, {0, -1, 1, 100}, powerOfT(101),
		{1, 0, 101, 1}, {1, 0, -101, 1}, powerOfT(-101), {5101, 100, 51, 1}, {0, -1, 1, 101}, {-102, 1, -1, 0},
		powerOfT(most), powerOfT(least), {1, 0, most, 1}, {most, -1, 1, 0}, {0, -1, 1, most}, {most - 1, least, 2 - most, most - 1},
	} {
		for _, n := range []impl.Matrix{m, opposite(m)} {
			word, code := impl.FreeWord(n)
			wantNoText(t, fmt.Sprintf("FreeWord(%v)", n), word, code, impl.ErrLimit)
		}
	}
}

func TestMatrixOfFreeRefuses(t *testing.T) {
	great := strings.Repeat("USVS", 25)
	for _, word := range []string{
		"SS", "UU", "VV", "UV", "VU", "SSU", "USS", "SUU", "UUS", "USVSS", "USVU", "SUSSU", "SUVS", "USUSVV",
		"T", "t", "L", "l", "s", "u", "v", "I", " ", "S ", " S", "UT", "UTU", "SxS", "SUSx", "US\n", "\x00", "\xff", "S\u0301", "TL",
		great + "S", great[:98] + "SS", great[:99] + "V", great + great + "U", strings.Repeat("US", 100) + "U", strings.Repeat("SU", 101),
		strings.Repeat("S", 200), strings.Repeat("USVS", 200),
	} {
		m, code := impl.MatrixOfFree(word)
		wantNoMatrix(t, fmt.Sprintf("MatrixOfFree(%q)", word), m, code, impl.ErrRange)
	}
	for _, word := range []string{great, "S" + great, great[:99], great + great, strings.Repeat("SVSU", 50)} {
		m, code := impl.MatrixOfFree(word)
		wantNoMatrix(t, fmt.Sprintf("MatrixOfFree(%q)", word), m, code, impl.ErrLimit)
	}
}

func TestSignBetween(t *testing.T) {
	list := append(someMatrices(t, 2), cat, opposite(cat))
	for _, m := range list {
		for _, n := range list {
			want := int64(0)
			if m == n {
				want = 1
			} else if opposite(m) == n {
				want = -1
			}
			x, code := impl.SignBetween(m, n)
			wantNumber(t, fmt.Sprintf("SignBetween(%v, %v)", m, n), x, code, want)
		}
	}
}

// TestWhatIsNoMatrixOfWords has matrices that would also give the later errors, too.
func TestWhatIsNoMatrixOfWords(t *testing.T) {
	for _, bad := range append(badMatrices(), impl.Matrix{-1, 0, 0, 1}, impl.Matrix{1, -201, 0, -1}, impl.Matrix{1, 201, 0, 2}) {
		about := fmt.Sprintf(" of %v", bad)
		sign, chain, code := impl.ChainOf(bad)
		wantNoList(t, "ChainOf"+about, chain, code, impl.ErrInvalid)
		wantNoNumber(t, "the sign of ChainOf"+about, sign, code, impl.ErrInvalid)
		if positive, code := impl.IsPositive(bad); positive || code != impl.ErrInvalid {
			t.Errorf("IsPositive%s = %t, %d", about, positive, code)
		}
		word, code := impl.PositiveWord(bad)
		wantNoText(t, "PositiveWord"+about, word, code, impl.ErrInvalid)
		runs, code := impl.RunsOf(bad)
		wantNoList(t, "RunsOf"+about, runs, code, impl.ErrInvalid)
		word, code = impl.FreeWord(bad)
		wantNoText(t, "FreeWord"+about, word, code, impl.ErrInvalid)
		for _, good := range []impl.Matrix{one, cat, bad} {
			x, code := impl.SignBetween(bad, good)
			wantNoNumber(t, "SignBetween"+about, x, code, impl.ErrInvalid)
			x, code = impl.SignBetween(good, bad)
			wantNoNumber(t, "SignBetween at last"+about, x, code, impl.ErrInvalid)
		}
	}
}

// TestListsOfWordsAreLeftAlone also looks at the memory behind the lists.
func TestListsOfWordsAreLeftAlone(t *testing.T) {
	whole := []int64{2, 1, 7, 7}
	list := whole[:2]
	m, code := impl.MatrixOfChain(1, list)
	wantMatrix(t, "MatrixOfChain", m, code, cat)
	m, code = impl.MatrixOfRuns(list)
	wantMatrix(t, "MatrixOfRuns", m, code, impl.Matrix{3, 2, 1, 1})
	if !slices.Equal(whole, []int64{2, 1, 7, 7}) {
		t.Errorf("the list has become %v", whole)
	}
	_, chain, _ := impl.ChainOf(cat)
	runs, _ := impl.RunsOf(cat)
	chain[0], runs[0] = 7, 7
	wantChain(t, cat, 1, []int64{2, 1})
	runs, code = impl.RunsOf(cat)
	wantList(t, "RunsOf once more", runs, code, []int64{1, 1})
}
