package tests

import (
	"cmp"
	"fmt"
	"math"
	"math/big"
	"slices"
	"strings"
	"testing"

	"loop.example/g01380/impl"
)

const (
	mostTreeLetters  = 400
	mostInCommutator = 1000
)

var (
	topTriple    = impl.Triple{1, 1, 1}
	secondTriple = impl.Triple{1, 1, 2}
	letterA      = impl.Matrix{1, 1, 1, 2}
	letterB      = impl.Matrix{3, 2, 4, 3}
)

func isTripleAsTold(t impl.Triple) bool {
	if t[0] < 1 || t[1] < t[0] || t[2] < t[1] || t[2] > most {
		return false
	}
	squares, product := new(big.Int), big.NewInt(3)
	for _, x := range t {
		squares.Add(squares, new(big.Int).Mul(big.NewInt(x), big.NewInt(x)))
		product.Mul(product, big.NewInt(x))
	}
	return squares.Cmp(product) == 0
}

// neighbourAsTold also tells whether the neighbour is within MaxEntry. It does not overflow for triples.
func neighbourAsTold(t impl.Triple, i int) (impl.Triple, bool) {
	others := slices.Delete(slices.Clone(t[:]), i, i+1)
	t[i] = 3*others[0]*others[1] - t[i]
	slices.Sort(t[:])
	return t, t[2] <= most
}

// allTriples has all triples, those that are not far above 1, 1, 1 first.
func allTriples() []impl.Triple {
	list := []impl.Triple{topTriple}
	for at := 0; at < len(list); at++ {
		for i := range 3 {
			if next, within := neighbourAsTold(list[at], i); within && !slices.Contains(list, next) {
				list = append(list, next)
			}
		}
	}
	return list
}

// solvedTriples asks all x and y for the z up to n that solve the equation, and does not know the tree.
func solvedTriples(n int64) []impl.Triple {
	var list []impl.Triple
	for x := int64(1); x <= n; x++ {
		// The two z have the sum 3 x y, so that the greater one is at least 3 x y / 2, and their product is
		// x x + y y.
		for y := x; y <= n && x*y <= n; y++ {
			square := 9*x*x*y*y - 4*(x*x+y*y)
			root := int64(math.Sqrt(float64(square)))
			for root*root > square {
				root--
			}
			for (root+1)*(root+1) <= square {
				root++
			}
			for _, z := range []int64{(3*x*y - root) / 2, (3*x*y + root) / 2} {
				if t := (impl.Triple{x, y, z}); z <= n && isTripleAsTold(t) && !slices.Contains(list, t) {
					list = append(list, t)
				}
			}
		}
	}
	slices.SortFunc(list, func(s, t impl.Triple) int {
		return cmp.Or(cmp.Compare(s[2], t[2]), cmp.Compare(s[1], t[1]))
	})
	return list
}

// within keeps those with numbers of at most n.
func within(list []impl.Triple, n int64) []impl.Triple {
	return slices.DeleteFunc(slices.Clone(list), func(t impl.Triple) bool { return t[2] > n })
}

func numbersIn(list []impl.Triple) []int64 {
	var numbers []int64
	for _, t := range list {
		numbers = append(numbers, t[:]...)
	}
	slices.Sort(numbers)
	return slices.Compact(numbers)
}

func badTriples() []impl.Triple {
	list := []impl.Triple{
		{}, {0, 0, 1}, {0, 1, 1}, {-1, -1, 1}, {-1, 1, 1}, {-2, -1, 1}, {-5, -2, 1}, {1, 1, 3}, {1, 2, 2}, {2, 2, 2}, {1, 2, 4}, {1, 2, 6}, {3, 3, 3}, {1, 2, 1}, {2, 1, 1}, {1, 5, 2}, {2, 1, 5}, {5, 2, 1}, {2, 5, 1}, {1, 5, 5},
		{most, most, most}, {1, most, most}, {1, 1, most}, {1, most - 1, most}, {2, 2, most},
		// These would be triples, but have greater numbers.
		{1, 433494437, 1134903170}, {1, 2971215073, 7778742049}, {2, 225058681, 1311738121},
		// For these the equation holds but for a multiple of the 64th power of 2.
		{37475851, 73324889, 606313950}, {173782129, 402624435, 773935211}, {11151714, 247653819, 529421755}, {105058745, 737390441, 867519777},
	}
	for _, x := range beyond() {
		list = append(list, impl.Triple{x, 1, 1}, impl.Triple{1, x, 1}, impl.Triple{1, 1, x}, impl.Triple{1, x, x}, impl.Triple{x, x, x}, impl.Triple{1, 2, x}, impl.Triple{0, 0, x}, impl.Triple{x, 0, 0})
	}
	return list
}

func badBounds() []int64 {
	return append(beyond(), -1, -2, -1000000, impl.MaxTriple+1, most)
}

func allPaths() []string {
	return wordsOf("LR", impl.MaxSteps)
}

// badPaths has steps that are none, and paths that are too long.
func badPaths() []string {
	list := []string{"X", "l", "r", "a", "ab", " ", "L ", " R", "LLX", "XRR", "LRlR", "L,R", "\x00", "\xff", "É", "0", "S", "T", "LRLRLRLRLRLr", strings.Repeat("X", 12), strings.Repeat("X", 13)}
	for _, letter := range []string{"L", "R"} {
		list = append(list, strings.Repeat(letter, 13), strings.Repeat(letter, 500), strings.Repeat("LR", 6)+letter)
	}
	return list
}

// wordsOfPair steps through the words of the pairs.
func wordsOfPair(path string) (string, string) {
	left, right := "a", "b"
	for _, step := range path {
		if step == 'L' {
			right = left + right
		} else {
			left += right
		}
	}
	return left, right
}

// wordOnLine walks along a line: the multiples of the number of letters b pass the length of the word with each b.
func wordOnLine(countA, countB int) string {
	var word strings.Builder
	length := countA + countB
	for i := range length {
		if i*countB/length == (i+1)*countB/length {
			word.WriteByte('a')
		} else {
			word.WriteByte('b')
		}
	}
	return word.String()
}

// numbersOnPath has the number of the path, ahead of those of both words of the pair, in order. The numbers
// come from each other as those of triples do, without matrices. It returns nil if one is beyond MaxEntry.
func numbersOnPath(path string) []int64 {
	left, right, number := int64(1), int64(2), int64(5)
	for _, step := range path {
		if step == 'L' {
			right, number = number, 3*left*number-right
		} else {
			left, number = number, 3*number*right-left
		}
		if number > most {
			return nil
		}
	}
	return []int64{number, min(left, right), max(left, right)}
}

func exactLetters(word string) (impl.Matrix, bool) {
	var factors []impl.Matrix
	for i := range len(word) {
		if word[i] == 'a' {
			factors = append(factors, letterA)
		} else {
			factors = append(factors, letterB)
		}
	}
	return exactProducts(factors...)
}

// pathsBeyond has the paths whose numbers are within MaxEntry, but not those of their matrices.
func pathsBeyond() map[string]impl.Triple {
	return map[string]impl.Triple{
		"LRLLLL": {13, 11485154, 447626321}, "LLRLR": {1325, 135137, 537169541}, "RRRRRL": {5741, 33461, 576298801}, "LLLRLL": {89, 2423525, 647072098},
		"LLLLLRL": {610, 426389, 780291637}, "LLLLLLLLLR": {10946, 28657, 941038565}, "LRRLL": {194, 1686049, 981277621},
	}
}

// matricesWithinThousand has some with numbers of just 1000.
func matricesWithinThousand(t *testing.T) []impl.Matrix {
	t.Helper()
	list := append(someMatrices(t, 1), letterA, letterB, impl.Matrix{3, 2, 1, 1}, impl.Matrix{-3, 1, 2, -1}, impl.Matrix{144, 89, 55, 34}, impl.Matrix{987, 610, 377, 233}, impl.Matrix{-233, 377, 610, -987})
	for _, k := range []int64{999, 1000} {
		list = append(list,
			powerOfT(k), powerOfT(-k), impl.Matrix{1, 0, k, 1}, impl.Matrix{-1, 0, k, -1}, impl.Matrix{0, -1, 1, k}, impl.Matrix{-k, -1, 1, 0}, impl.Matrix{k, k - 1, 1, 1}, impl.Matrix{-k, k - 1, 1, -1},
			impl.Matrix{k, 1, k - 1, 1}, impl.Matrix{k - 1, k, k - 2, k - 1}, impl.Matrix{1 - k, k, k - 2, 1 - k}, impl.Matrix{k - 1, 2 - k, -k, k - 1})
	}
	return slices.DeleteFunc(list, isBeyondThousand)
}

func isBeyondThousand(m impl.Matrix) bool {
	return slices.ContainsFunc(m[:], func(x int64) bool { return x > mostInCommutator || x < -mostInCommutator })
}

// matricesBeyondThousand has some with just one number beyond it, by 1.
func matricesBeyondThousand() []impl.Matrix {
	return []impl.Matrix{
		powerOfT(1001), powerOfT(-1001), {1, 0, 1001, 1}, {1, 0, -1001, 1}, {1001, -1, 1, 0}, {-1001, 1, -1, 0}, {0, 1, -1, 1001}, {0, -1, 1, -1001}, {1001, 1000, 1, 1}, {-1001, 1000, 1, -1},
		powerOfT(most), powerOfT(least), {1, 0, most, 1}, {0, -1, 1, most}, {most, most - 1, 1, 1}, {-31622, 31623, 31621, -31622},
	}
}

// commutatorTraceAsTold multiplies without MaxEntry. For numbers of at most 1000 it does not overflow.
func commutatorTraceAsTold(m, n impl.Matrix) int64 {
	product := one
	for _, factor := range []impl.Matrix{m, n, {m[3], -m[1], -m[2], m[0]}, {n[3], -n[1], -n[2], n[0]}} {
		product, _ = exactProduct(product, factor)
	}
	return product[0] + product[3]
}

func wantTriple(t *testing.T, what string, x impl.Triple, code int64, want impl.Triple) {
	t.Helper()
	if x != want || code != impl.ErrNone {
		t.Errorf("%s = %v, %d, not %v", what, x, code, want)
	}
}

func wantNoTriple(t *testing.T, what string, x impl.Triple, code int64, want int64) {
	t.Helper()
	if x != (impl.Triple{}) || code != want {
		t.Errorf("%s = %v, %d, not the error %d", what, x, code, want)
	}
}

func wantTriples(t *testing.T, what string, list []impl.Triple, code int64, want []impl.Triple) {
	t.Helper()
	if !slices.Equal(list, want) || code != impl.ErrNone {
		t.Errorf("%s = %v, %d, not %v", what, list, code, want)
	}
}

func wantNoTriples(t *testing.T, what string, list []impl.Triple, code int64, want int64) {
	t.Helper()
	if len(list) != 0 || code != want {
		t.Errorf("%s = %v, %d, not the error %d", what, list, code, want)
	}
}

func wantNeighbour(t *testing.T, x impl.Triple, i int64, want impl.Triple) {
	t.Helper()
	next, code := impl.NeighbourOf(x, i)
	wantTriple(t, fmt.Sprintf("NeighbourOf(%v, %d)", x, i), next, code, want)
}

func wantNoNeighbour(t *testing.T, x impl.Triple, i, want int64) {
	t.Helper()
	next, code := impl.NeighbourOf(x, i)
	wantNoTriple(t, fmt.Sprintf("NeighbourOf(%v, %d)", x, i), next, code, want)
}

func wantDownPath(t *testing.T, x impl.Triple, want []impl.Triple) {
	t.Helper()
	list, code := impl.DownPath(x)
	wantTriples(t, fmt.Sprintf("DownPath(%v)", x), list, code, want)
}

// wantBelow asks for the triples and for the numbers.
func wantBelow(t *testing.T, n int64, want []impl.Triple) {
	t.Helper()
	list, code := impl.TriplesBelow(n)
	wantTriples(t, fmt.Sprintf("TriplesBelow(%d)", n), list, code, want)
	numbers, code := impl.MarkovNumbers(n)
	wantList(t, fmt.Sprintf("MarkovNumbers(%d)", n), numbers, code, numbersIn(want))
}

func wantWordOfPath(t *testing.T, path, want string) {
	t.Helper()
	word, code := impl.WordOfPath(path)
	wantText(t, fmt.Sprintf("WordOfPath(%q)", path), word, code, want)
}

func wantNoWordOfPath(t *testing.T, path string, want int64) {
	t.Helper()
	word, code := impl.WordOfPath(path)
	wantNoText(t, fmt.Sprintf("WordOfPath(%q)", path), word, code, want)
}

// wantOnPath asks for the number and the triple of a path.
func wantOnPath(t *testing.T, path string, want impl.Triple) {
	t.Helper()
	number, code := impl.NumberOfPath(path)
	wantNumber(t, fmt.Sprintf("NumberOfPath(%q)", path), number, code, want[2])
	x, code := impl.TripleOfPath(path)
	wantTriple(t, fmt.Sprintf("TripleOfPath(%q)", path), x, code, want)
}

func wantNothingOnPath(t *testing.T, path string, want int64) {
	t.Helper()
	number, code := impl.NumberOfPath(path)
	wantNoNumber(t, fmt.Sprintf("NumberOfPath(%q)", path), number, code, want)
	x, code := impl.TripleOfPath(path)
	wantNoTriple(t, fmt.Sprintf("TripleOfPath(%q)", path), x, code, want)
}

func wantPath(t *testing.T, x impl.Triple, want string) {
	t.Helper()
	path, code := impl.PathOfTriple(x)
	wantText(t, fmt.Sprintf("PathOfTriple(%v)", x), path, code, want)
}

func wantNoPath(t *testing.T, x impl.Triple, want int64) {
	t.Helper()
	path, code := impl.PathOfTriple(x)
	wantNoText(t, fmt.Sprintf("PathOfTriple(%v)", x), path, code, want)
}

func wantLetters(t *testing.T, word string, want impl.Matrix) {
	t.Helper()
	m, code := impl.MatrixOfLetters(word)
	wantMatrix(t, fmt.Sprintf("MatrixOfLetters(%q)", word), m, code, want)
}

func wantNoLetters(t *testing.T, word string, want int64) {
	t.Helper()
	m, code := impl.MatrixOfLetters(word)
	wantNoMatrix(t, fmt.Sprintf("MatrixOfLetters(%q)", word), m, code, want)
}

func wantTraces(t *testing.T, m, n impl.Matrix, want []int64) {
	t.Helper()
	list, code := impl.TracesOf(m, n)
	wantList(t, fmt.Sprintf("TracesOf(%v, %v)", m, n), list, code, want)
}

func wantNoTraces(t *testing.T, m, n impl.Matrix, want int64) {
	t.Helper()
	list, code := impl.TracesOf(m, n)
	wantNoList(t, fmt.Sprintf("TracesOf(%v, %v)", m, n), list, code, want)
}

func wantCommutatorTrace(t *testing.T, m, n impl.Matrix, want int64) {
	t.Helper()
	x, code := impl.CommutatorTrace(m, n)
	wantNumber(t, fmt.Sprintf("CommutatorTrace(%v, %v)", m, n), x, code, want)
}

func wantNoCommutatorTrace(t *testing.T, m, n impl.Matrix, want int64) {
	t.Helper()
	x, code := impl.CommutatorTrace(m, n)
	wantNoNumber(t, fmt.Sprintf("CommutatorTrace(%v, %v)", m, n), x, code, want)
}

func TestLimitsOfTriples(t *testing.T) {
	if impl.MaxTriple != 1000000 || impl.MaxSteps != 12 {
		t.Errorf("MaxTriple is %d, MaxSteps is %d", impl.MaxTriple, impl.MaxSteps)
	}
}

func TestIsTriple(t *testing.T) {
	for x := int64(-3); x <= 35; x++ {
		for y := int64(-3); y <= 35; y++ {
			for z := int64(-3); z <= 35; z++ {
				if triple := (impl.Triple{x, y, z}); impl.IsTriple(triple) != isTripleAsTold(triple) {
					t.Errorf("IsTriple(%v) is %t", triple, impl.IsTriple(triple))
				}
			}
		}
	}
	for _, triple := range allTriples() {
		if !impl.IsTriple(triple) {
			t.Errorf("IsTriple(%v) is false", triple)
		}
	}
	for _, bad := range badTriples() {
		if impl.IsTriple(bad) {
			t.Errorf("IsTriple(%v) is true", bad)
		}
	}
}

// TestIsTripleNearTriples changes numbers by 1, turns signs, and puts numbers in other orders.
func TestIsTripleNearTriples(t *testing.T) {
	for _, triple := range allTriples() {
		for i := range triple {
			for _, change := range []func(x int64) int64{
				func(x int64) int64 { return x + 1 }, func(x int64) int64 { return x - 1 }, func(x int64) int64 { return -x }, func(x int64) int64 { return 2 * x }, func(x int64) int64 { return x + 1<<32 },
			} {
				near := triple
				near[i] = change(near[i])
				if impl.IsTriple(near) != isTripleAsTold(near) {
					t.Errorf("IsTriple(%v) is %t", near, impl.IsTriple(near))
				}
			}
			for j := range i {
				near := triple
				near[i], near[j] = near[j], near[i]
				if impl.IsTriple(near) != (near[i] == near[j]) {
					t.Errorf("IsTriple(%v) is %t", near, impl.IsTriple(near))
				}
			}
		}
	}
}

func TestNeighbourOf(t *testing.T) {
	beyondLimit := 0
	for _, triple := range allTriples() {
		for i := range triple {
			if want, within := neighbourAsTold(triple, i); within {
				wantNeighbour(t, triple, int64(i), want)
			} else {
				wantNoNeighbour(t, triple, int64(i), impl.ErrLimit)
				beyondLimit++
			}
		}
	}
	if beyondLimit < 80 {
		t.Errorf("only %d neighbours are beyond MaxEntry", beyondLimit)
	}
}

func TestNeighbourOfExamples(t *testing.T) {
	for _, c := range []struct {
		triple impl.Triple
		i      int64
		want   impl.Triple
	}{
		{topTriple, 0, secondTriple}, {topTriple, 1, secondTriple}, {topTriple, 2, secondTriple}, {secondTriple, 0, impl.Triple{1, 2, 5}}, {secondTriple, 1, impl.Triple{1, 2, 5}}, {secondTriple, 2, topTriple},
		{impl.Triple{1, 2, 5}, 0, impl.Triple{2, 5, 29}}, {impl.Triple{1, 2, 5}, 1, impl.Triple{1, 5, 13}}, {impl.Triple{1, 2, 5}, 2, secondTriple}, {impl.Triple{5, 29, 433}, 2, impl.Triple{2, 5, 29}},
		{impl.Triple{1, 63245986, 165580141}, 1, impl.Triple{1, 165580141, 433494437}}, {impl.Triple{1, 165580141, 433494437}, 2, impl.Triple{1, 63245986, 165580141}}, {impl.Triple{194, 1686049, 981277621}, 2, impl.Triple{194, 2897, 1686049}},
		{impl.Triple{194, 2897, 1686049}, 1, impl.Triple{194, 1686049, 981277621}}, {impl.Triple{10946, 28657, 941038565}, 2, impl.Triple{1, 10946, 28657}},
	} {
		wantNeighbour(t, c.triple, c.i, c.want)
	}
	for _, c := range []struct {
		triple impl.Triple
		i      int64
	}{{impl.Triple{1, 165580141, 433494437}, 1}, {impl.Triple{1, 165580141, 433494437}, 0}, {impl.Triple{2, 38613965, 225058681}, 1}, {impl.Triple{194, 1686049, 981277621}, 0}, {impl.Triple{194, 1686049, 981277621}, 1}, {impl.Triple{194, 2897, 1686049}, 0}} {
		wantNoNeighbour(t, c.triple, c.i, impl.ErrLimit)
	}
}

// Promise 9: what was replaced is put back where the number that took its place is replaced.
func TestNeighboursComeBack(t *testing.T) {
	count := 0
	for _, triple := range allTriples() {
		for i := range int64(3) {
			next, code := impl.NeighbourOf(triple, i)
			if code != impl.ErrNone {
				continue
			}
			count++
			placed := 3*triple[(i+1)%3]*triple[(i+2)%3] - triple[i]
			for j := range int64(3) {
				if next[j] == placed {
					wantNeighbour(t, next, j, triple)
				}
			}
			if !impl.IsTriple(next) || !slices.Contains(next[:], placed) {
				t.Errorf("NeighbourOf(%v, %d) = %v", triple, i, next)
			}
		}
	}
	if count < 170 {
		t.Errorf("only %d neighbours came back", count)
	}
}

func TestNeighbourOfRefuses(t *testing.T) {
	for _, i := range append(beyond(), -1, 3, 4, -3, 1<<32+1) {
		wantNoNeighbour(t, topTriple, i, impl.ErrRange)
		wantNoNeighbour(t, impl.Triple{1, 2, 5}, i, impl.ErrRange)
		// Here most neighbours are beyond the limit, which is asked later.
		wantNoNeighbour(t, impl.Triple{194, 1686049, 981277621}, i, impl.ErrRange)
		for _, bad := range badTriples() {
			wantNoNeighbour(t, bad, i, impl.ErrInvalid)
		}
	}
	for _, bad := range badTriples() {
		for i := range int64(3) {
			wantNoNeighbour(t, bad, i, impl.ErrInvalid)
		}
	}
}

func TestDownPath(t *testing.T) {
	longest := 0
	for _, triple := range allTriples() {
		want := []impl.Triple{triple}
		for next := triple; next != topTriple; {
			next, _ = neighbourAsTold(next, 2)
			want = append(want, next)
		}
		wantDownPath(t, triple, want)
		longest = max(longest, len(want))
	}
	if longest != 22 {
		t.Errorf("the longest way down has %d triples", longest)
	}
	wantDownPath(t, topTriple, []impl.Triple{topTriple})
	wantDownPath(t, secondTriple, []impl.Triple{secondTriple, topTriple})
	wantDownPath(t, impl.Triple{5, 13, 194}, []impl.Triple{{5, 13, 194}, {1, 5, 13}, {1, 2, 5}, secondTriple, topTriple})
	wantDownPath(t, impl.Triple{194, 1686049, 981277621}, []impl.Triple{{194, 1686049, 981277621}, {194, 2897, 1686049}, {5, 194, 2897}, {5, 13, 194}, {1, 5, 13}, {1, 2, 5}, secondTriple, topTriple})
	for _, bad := range badTriples() {
		list, code := impl.DownPath(bad)
		wantNoTriples(t, fmt.Sprintf("DownPath(%v)", bad), list, code, impl.ErrInvalid)
	}
}

func TestTriplesBelow(t *testing.T) {
	all := solvedTriples(impl.MaxTriple)
	if len(all) != 40 {
		t.Errorf("%d triples were found", len(all))
	}
	for n := range int64(700) {
		wantBelow(t, n, within(all, n))
	}
	for _, x := range numbersIn(all) {
		for _, n := range []int64{x - 1, x, x + 1} {
			wantBelow(t, n, within(all, n))
		}
	}
	for _, n := range []int64{impl.MaxTriple - 1, impl.MaxTriple} {
		wantBelow(t, n, all)
	}
}

func TestTriplesBelowExamples(t *testing.T) {
	list := []impl.Triple{topTriple, secondTriple, {1, 2, 5}, {1, 5, 13}, {2, 5, 29}, {1, 13, 34}, {1, 34, 89}, {2, 29, 169}, {5, 13, 194}, {1, 89, 233}, {5, 29, 433}}
	for n, count := range map[int64]int{0: 0, 1: 1, 2: 2, 3: 2, 4: 2, 5: 3, 12: 3, 13: 4, 28: 4, 29: 5, 33: 5, 34: 6, 88: 6, 89: 7, 168: 7, 169: 8, 193: 8, 194: 9, 432: 10, 433: 11} {
		wantBelow(t, n, list[:count])
	}
	numbers, code := impl.MarkovNumbers(impl.MaxTriple)
	wantList(t, "MarkovNumbers(1000000)", numbers, code, []int64{
		1, 2, 5, 13, 29, 34, 89, 169, 194, 233, 433, 610, 985, 1325, 1597, 2897, 4181, 5741, 6466, 7561, 9077, 10946, 14701, 28657, 33461, 37666, 43261, 51641, 62210, 75025, 96557, 135137, 195025, 196418, 294685,
		426389, 499393, 514229, 646018, 925765,
	})
}

func TestTriplesBelowRefuses(t *testing.T) {
	for _, n := range badBounds() {
		list, code := impl.TriplesBelow(n)
		wantNoTriples(t, fmt.Sprintf("TriplesBelow(%d)", n), list, code, impl.ErrRange)
		numbers, code := impl.MarkovNumbers(n)
		wantNoList(t, fmt.Sprintf("MarkovNumbers(%d)", n), numbers, code, impl.ErrRange)
	}
}

func TestWordOfPath(t *testing.T) {
	counts := map[int]int{}
	for _, path := range allPaths() {
		left, right := wordsOfPair(path)
		want := left + right
		if line := wordOnLine(strings.Count(want, "a"), strings.Count(want, "b")); line != want {
			t.Errorf("on the line %q is %q", want, line)
		}
		counts[len(want)]++
		if len(want) > mostTreeLetters {
			wantNoWordOfPath(t, path, impl.ErrLimit)
		} else {
			wantWordOfPath(t, path, want)
		}
	}
	if counts[399] != 0 || counts[400] != 4 || counts[401] != 8 || counts[610] != 2 {
		t.Errorf("there are %d, %d and %d words of 400, 401 and 610 letters", counts[400], counts[401], counts[610])
	}
}

func TestWordOfPathExamples(t *testing.T) {
	for path, want := range map[string]string{
		"": "ab", "L": "aab", "R": "abb", "LL": "aaab", "LR": "aabab", "RL": "ababb", "RR": "abbb", "LLR": "aaabaab", "LRL": "aabaabab", "RLR": "ababbabb", "LRR": "aababab",
		strings.Repeat("L", 12): strings.Repeat("a", 13) + "b", strings.Repeat("R", 12): "a" + strings.Repeat("b", 13), "LLLLLLLLLLLR": strings.Repeat("a", 12) + "b" + strings.Repeat("a", 11) + "b",
	} {
		wantWordOfPath(t, path, want)
	}
	for path, length := range map[string]int{
		"LRLRLRLRLRL": 377, "RLRLRLRLRLR": 377, "LLRRLLRLLRLR": 397, "RRLLRRLRRLRL": 397, "LLRRLLRLRRLR": 400, "LRLLRLRRLLRR": 400, "RLRRLRLLRRLL": 400, "RRLLRRLRLLRL": 400,
	} {
		word, code := impl.WordOfPath(path)
		wantNumber(t, fmt.Sprintf("the length of WordOfPath(%q)", path), int64(len(word)), code, int64(length))
	}
	for _, path := range []string{"LLRLRLRRLRLL", "LRLRRLLRLLRR", "LRLRLRLRLRLR", "RLRLRLRLRLRL", "LLRLLRLLRLRL"} {
		wantNoWordOfPath(t, path, impl.ErrLimit)
	}
}

func TestPathsRefused(t *testing.T) {
	for _, bad := range badPaths() {
		wantNoWordOfPath(t, bad, impl.ErrRange)
		wantNothingOnPath(t, bad, impl.ErrRange)
	}
	// One letter is no step in a path of which the word would be too long.
	for i := range impl.MaxSteps {
		bad := []byte("LRLRLRLRLRLR")
		bad[i] = 'a'
		wantNoWordOfPath(t, string(bad), impl.ErrRange)
		wantNothingOnPath(t, string(bad), impl.ErrRange)
	}
}

func TestMatrixOfLetters(t *testing.T) {
	beyondLimit := 0
	list := wordsOf("ab", 9)
	for i := range 30 {
		list = append(list, strings.Repeat("a", i), strings.Repeat("b", i), strings.Repeat("ab", i), strings.Repeat("ba", i), strings.Repeat("aab", i), strings.Repeat("a", i)+"b", "b"+strings.Repeat("a", i), strings.Repeat("b", i)+"a")
	}
	for _, word := range append(list, strings.Repeat("a", 400), strings.Repeat("b", 400), strings.Repeat("ab", 200)) {
		if want, within := exactLetters(word); within {
			wantLetters(t, word, want)
		} else {
			wantNoLetters(t, word, impl.ErrLimit)
			beyondLimit++
		}
	}
	if beyondLimit < 100 {
		t.Errorf("only %d words have matrices beyond MaxEntry", beyondLimit)
	}
}

func TestMatrixOfLettersExamples(t *testing.T) {
	for word, want := range map[string]impl.Matrix{
		"": one, "a": letterA, "b": letterB, "ab": {7, 5, 11, 8}, "ba": {5, 7, 7, 10}, "aa": {2, 3, 3, 5}, "bb": {17, 12, 24, 17}, "aab": {18, 13, 29, 21}, "abb": {41, 29, 65, 46},
		strings.Repeat("a", 21): {165580141, 267914296, 267914296, 433494437}, strings.Repeat("b", 11): {131836323, 93222358, 186444716, 131836323},
	} {
		wantLetters(t, word, want)
	}
	for _, word := range []string{strings.Repeat("a", 22), strings.Repeat("b", 13), strings.Repeat("a", 399), strings.Repeat("b", 399), strings.Repeat("ab", 200), strings.Repeat("a", 400)} {
		wantNoLetters(t, word, impl.ErrLimit)
	}
	long := strings.Repeat("a", 400)
	for _, word := range []string{
		"A", "B", "c", "L", "R", " ", "ab ", " ab", "abLab", "aab\x00", "\x00", "\xff", "á", "0", long + "a", long + "b", strings.Repeat("b", 401), strings.Repeat("a", 5000), long[1:] + "c", "c" + long[1:], strings.Repeat("c", 401),
		strings.Repeat("b", 50) + "A",
	} {
		wantNoLetters(t, word, impl.ErrRange)
	}
}

// TestNumbersAndTriplesOfPaths compares matrices with the numbers of triples.
func TestNumbersAndTriplesOfPaths(t *testing.T) {
	count := 0
	for _, path := range allPaths() {
		left, right := wordsOfPair(path)
		m, within := exactLetters(left + right)
		if !within || len(left)+len(right) > mostTreeLetters {
			wantNothingOnPath(t, path, impl.ErrLimit)
			continue
		}
		numbers := numbersOnPath(path)
		if numbers == nil || m[1] != numbers[0] {
			t.Errorf("the numbers on %q are %v, and those of the matrix %v", path, numbers, m)
			continue
		}
		wantOnPath(t, path, impl.Triple{numbers[1], numbers[2], numbers[0]})
		count++
	}
	if count != 72 {
		t.Errorf("%d paths have numbers", count)
	}
}

func TestNumbersAndTriplesOfPathsExamples(t *testing.T) {
	for path, want := range map[string]impl.Triple{
		"": {1, 2, 5}, "L": {1, 5, 13}, "R": {2, 5, 29}, "LL": {1, 13, 34}, "LR": {5, 13, 194}, "RL": {5, 29, 433}, "RR": {2, 29, 169}, "LLLLLLLLLLLL": {1, 196418, 514229}, "RRRRRRRRRR": {2, 38613965, 225058681},
		"LRL": {13, 194, 7561}, "LRR": {5, 194, 2897}, "RLR": {29, 433, 37666},
	} {
		wantOnPath(t, path, want)
	}
	for _, path := range []string{"RRRRRRRRRRR", "RRRRRRRRRRRR", "LRLRLR", "LRLRLRLRLRL", "LRLRLRLRLRLR", "LLRRLLRLRRLR", "LLRLRLRRLRLL", "LLLLLLLLLLLR"} {
		wantNothingOnPath(t, path, impl.ErrLimit)
	}
	for path, triple := range pathsBeyond() {
		wantNothingOnPath(t, path, impl.ErrLimit)
		wantPath(t, triple, path)
	}
}

// Promise 9, for the traces of matrices of paths, and also for those of both words of the pair.
func TestTracesOfPaths(t *testing.T) {
	count := 0
	for _, path := range allPaths() {
		number, code := impl.NumberOfPath(path)
		if code != impl.ErrNone {
			continue
		}
		count++
		word, _ := impl.WordOfPath(path)
		m, _ := impl.MatrixOfLetters(word)
		trace, code := impl.TraceOf(m)
		wantNumber(t, fmt.Sprintf("the trace of the matrix of %q", word), trace, code, 3*number)
		left, right := wordsOfPair(path)
		ofLeft, _ := impl.MatrixOfLetters(left)
		ofRight, _ := impl.MatrixOfLetters(right)
		wantTraces(t, ofLeft, ofRight, []int64{3 * ofLeft[1], 3 * ofRight[1], 3 * number, 3 * (3*ofLeft[1]*ofRight[1] - number)})
		if !isBeyondThousand(ofLeft) && !isBeyondThousand(ofRight) {
			wantCommutatorTrace(t, ofLeft, ofRight, -2)
		}
	}
	if count != 72 {
		t.Errorf("%d paths have numbers", count)
	}
}

func TestPathOfTriple(t *testing.T) {
	met := map[int64]int{}
	all := allTriples()
	paths := map[impl.Triple]string{}
	for next := []string{""}; len(next) > 0; next = next[1:] {
		if numbers := numbersOnPath(next[0]); numbers != nil {
			paths[impl.Triple{numbers[1], numbers[2], numbers[0]}] = next[0]
			next = append(next, next[0]+"L", next[0]+"R")
		}
	}
	for _, triple := range all {
		path, found := paths[triple]
		switch {
		case !found:
			wantNoPath(t, triple, impl.ErrNotFound)
			met[impl.ErrNotFound]++
		case len(path) > impl.MaxSteps:
			wantNoPath(t, triple, impl.ErrLimit)
			met[impl.ErrLimit]++
		default:
			wantPath(t, triple, path)
			met[impl.ErrNone]++
		}
	}
	if met[impl.ErrNotFound] != 2 || met[impl.ErrLimit] != 7 || met[impl.ErrNone] != 79 {
		t.Errorf("the codes were %v", met)
	}
}

func TestPathOfTripleExamples(t *testing.T) {
	for triple, want := range map[impl.Triple]string{
		{1, 2, 5}: "", {1, 5, 13}: "L", {2, 5, 29}: "R", {5, 13, 194}: "LR", {5, 29, 433}: "RL", {1, 196418, 514229}: "LLLLLLLLLLLL", {1, 75025, 196418}: "LLLLLLLLLLL", {2, 38613965, 225058681}: "RRRRRRRRRR",
	} {
		wantPath(t, triple, want)
	}
	wantNoPath(t, topTriple, impl.ErrNotFound)
	wantNoPath(t, secondTriple, impl.ErrNotFound)
	for _, triple := range []impl.Triple{{1, 514229, 1346269}, {1, 165580141, 433494437}, {1, 1346269, 3524578}} {
		wantNoPath(t, triple, impl.ErrLimit)
	}
	for _, bad := range badTriples() {
		wantNoPath(t, bad, impl.ErrInvalid)
	}
}

// Paths of triples lead to them, and triples of paths come from them.
func TestPathsOfTriplesLeadBack(t *testing.T) {
	for _, path := range allPaths() {
		if triple, code := impl.TripleOfPath(path); code == impl.ErrNone {
			wantPath(t, triple, path)
			if !impl.IsTriple(triple) {
				t.Errorf("TripleOfPath(%q) = %v", path, triple)
			}
		}
	}
	count := 0
	for _, triple := range allTriples() {
		path, code := impl.PathOfTriple(triple)
		if _, beyondLimit := pathsBeyond()[path]; code == impl.ErrNone && !beyondLimit {
			wantOnPath(t, path, triple)
			count++
		}
	}
	if count != 72 {
		t.Errorf("%d triples came back", count)
	}
}

func TestTracesOf(t *testing.T) {
	codes := map[int64]int{}
	for _, m := range someMatrices(t, 2) {
		for _, n := range someMatrices(t, 2) {
			product, within := exactProduct(m, n)
			quotient, alsoWithin := exactProduct(m, impl.Matrix{n[3], -n[1], -n[2], n[0]})
			if !within || !alsoWithin {
				wantNoTraces(t, m, n, impl.ErrLimit)
				codes[impl.ErrLimit]++
				continue
			}
			codes[impl.ErrNone]++
			want := []int64{m[0] + m[3], n[0] + n[3], product[0] + product[3], quotient[0] + quotient[3]}
			wantTraces(t, m, n, want)
			if want[0]*want[1] != want[2]+want[3] {
				t.Errorf("the traces of %v and %v are %v", m, n, want)
			}
		}
	}
	if codes[impl.ErrNone] < 2500 || codes[impl.ErrLimit] < 500 {
		t.Errorf("the codes were %v", codes)
	}
}

func TestTracesOfExamples(t *testing.T) {
	for _, c := range []struct {
		m, n impl.Matrix
		want []int64
	}{
		{letterA, letterB, []int64{3, 6, 15, 3}}, {letterB, letterA, []int64{6, 3, 15, 3}}, {one, one, []int64{2, 2, 2, 2}}, {cat, s, []int64{3, 0, 0, 0}}, {cat, cat, []int64{3, 3, 7, 2}}, {opposite(cat), u, []int64{-3, 1, -2, -1}},
		{impl.Matrix{0, -1, 1, most}, one, []int64{most, 2, most, most}}, {impl.Matrix{most, most - 1, 1, 1}, one, []int64{most + 1, 2, most + 1, most + 1}}, {impl.Matrix{-31622, 31623, 31621, -31622}, one, []int64{-63244, 2, -63244, -63244}},
		{impl.Matrix{most - 1, least, 2 - most, most - 1}, opposite(one), []int64{2*most - 2, -2, 2 - 2*most, 2 - 2*most}}, {powerOfT(most - 1), powerOfT(1), []int64{2, 2, 2, 2}}, {powerOfT(1 - most), powerOfT(1), []int64{2, 2, 2, 2}},
		{powerOfT(most), s, []int64{2, 0, most, least}}, {s, powerOfT(least), []int64{0, 2, least, most}},
	} {
		wantTraces(t, c.m, c.n, c.want)
	}
	for _, c := range [][2]impl.Matrix{
		// Just the product is beyond the limit, or just that with the inverse, or both.
		{powerOfT(most), powerOfT(1)}, {powerOfT(least), powerOfT(-1)}, {powerOfT(most), powerOfT(most)}, {powerOfT(most), powerOfT(-1)}, {powerOfT(least), powerOfT(1)}, {powerOfT(1), powerOfT(most)}, {powerOfT(-1), powerOfT(most)},
		{{1, 0, most, 1}, {1, 0, 1, 1}}, {{1, 0, most, 1}, {1, 0, -1, 1}}, {powerOfT(most), {1, 0, most, 1}}, {{most, most - 1, 1, 1}, {most, most - 1, 1, 1}}, {{most - 1, least, 2 - most, most - 1}, cat},
	} {
		wantNoTraces(t, c[0], c[1], impl.ErrLimit)
	}
}

func TestCommutatorTrace(t *testing.T) {
	greatest := int64(0)
	for _, m := range matricesWithinThousand(t) {
		for _, n := range matricesWithinThousand(t) {
			want := commutatorTraceAsTold(m, n)
			greatest = max(greatest, want)
			wantCommutatorTrace(t, m, n, want)
		}
	}
	// The commutators of some have numbers beyond MaxEntry.
	if greatest < 100*most {
		t.Errorf("no trace is greater than %d", greatest)
	}
}

func TestCommutatorTraceExamples(t *testing.T) {
	for _, c := range []struct {
		m, n impl.Matrix
		want int64
	}{
		{letterA, letterB, -2}, {letterB, letterA, -2}, {one, one, 2}, {one, cat, 2}, {cat, cat, 2}, {s, u, 3}, {cat, s, 7}, {powerOfT(1000), s, 1000002}, {powerOfT(1000), impl.Matrix{1, 0, 1000, 1}, 1000000000002},
		{powerOfT(-1000), impl.Matrix{1, 0, 1000, 1}, 1000000000002}, {impl.Matrix{1000, 999, 1, 1}, powerOfT(1000), 1000002},
	} {
		wantCommutatorTrace(t, c.m, c.n, c.want)
	}
	// The commutators that CommutatorOf has are the same ones.
	for _, m := range someMatrices(t, 1)[:20] {
		for _, n := range matricesWithinThousand(t) {
			if commutator, code := impl.CommutatorOf(m, n); code == impl.ErrNone {
				wantCommutatorTrace(t, m, n, commutator[0]+commutator[3])
			}
		}
	}
}

func TestTracesOfRefuse(t *testing.T) {
	for _, bad := range badMatrices() {
		for _, m := range append(matricesBeyondThousand(), one, cat, letterA, powerOfT(1000), bad) {
			wantNoTraces(t, bad, m, impl.ErrInvalid)
			wantNoTraces(t, m, bad, impl.ErrInvalid)
			wantNoCommutatorTrace(t, bad, m, impl.ErrInvalid)
			wantNoCommutatorTrace(t, m, bad, impl.ErrInvalid)
		}
	}
	for _, m := range matricesBeyondThousand() {
		for _, n := range append(matricesBeyondThousand(), one, cat, letterA, powerOfT(1000)) {
			wantNoCommutatorTrace(t, m, n, impl.ErrRange)
			wantNoCommutatorTrace(t, n, m, impl.ErrRange)
		}
	}
}

// TestListsOfTriplesAreNew changes all of a result, and asks once more.
func TestListsOfTriplesAreNew(t *testing.T) {
	triple := impl.Triple{5, 13, 194}
	for range 2 {
		down, code := impl.DownPath(triple)
		wantTriples(t, fmt.Sprintf("DownPath(%v)", triple), down, code, []impl.Triple{triple, {1, 5, 13}, {1, 2, 5}, secondTriple, topTriple})
		below, code := impl.TriplesBelow(13)
		wantTriples(t, "TriplesBelow(13)", below, code, []impl.Triple{topTriple, secondTriple, {1, 2, 5}, {1, 5, 13}})
		numbers, code := impl.MarkovNumbers(30)
		wantList(t, "MarkovNumbers(30)", numbers, code, []int64{1, 2, 5, 13, 29})
		traces, code := impl.TracesOf(letterA, letterB)
		wantList(t, "TracesOf", traces, code, []int64{3, 6, 15, 3})
		for _, list := range [][]impl.Triple{down, below} {
			for i := range list {
				list[i] = impl.Triple{-7, -7, -7}
			}
		}
		for _, list := range [][]int64{numbers, traces} {
			for i := range list {
				list[i] = -7
			}
		}
	}
}
