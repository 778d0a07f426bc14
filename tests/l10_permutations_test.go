package tests

import (
	"fmt"
	"math/rand"
	"slices"
	"strings"
	"testing"

	"loop.example/g01380/impl"
)

const mostCountedPoints = 12

var (
	onePoint  = impl.Action{S: []int64{0}, T: []int64{0}}
	twoPoints = impl.Action{S: []int64{1, 0}, T: []int64{1, 0}}
	ofLevel2  = impl.Action{S: []int64{1, 0, 2}, T: []int64{0, 2, 1}}
	sixTurned = impl.Action{S: []int64{3, 4, 5, 0, 1, 2}, T: []int64{5, 0, 1, 2, 3, 4}}
	ofLevel5  = impl.Action{S: []int64{1, 0, 5, 3, 4, 2}, T: []int64{0, 2, 3, 4, 5, 1}}
)

func copied(x impl.Action) impl.Action {
	return impl.Action{S: slices.Clone(x.S), T: slices.Clone(x.T)}
}

func areSameLists(x, y impl.Action) bool {
	return slices.Equal(x.S, y.S) && slices.Equal(x.T, y.T)
}

// ledAsTold leads the point letter by letter.
func ledAsTold(x impl.Action, word string, i int64) int64 {
	for _, letter := range strings.NewReplacer("L", "StS", "l", "STS").Replace(word) {
		switch letter {
		case 'S':
			i = x.S[i]
		case 'T':
			i = x.T[i]
		case 't':
			i = int64(slices.Index(x.T, i))
		}
	}
	return i
}

// pointsTo has all numbers from 0 to n - 1.
func pointsTo(n int) []int64 {
	list := make([]int64, n)
	for i := range list {
		list[i] = int64(i)
	}
	return list
}

func isActionAsTold(x impl.Action) bool {
	n := len(x.S)
	all := pointsTo(n)
	if n < 1 || n > 72 || !slices.Equal(slices.Sorted(slices.Values(x.S)), all) || !slices.Equal(slices.Sorted(slices.Values(x.T)), all) {
		return false
	}
	for _, i := range all {
		if ledAsTold(x, "SS", i) != i || ledAsTold(x, "TSTSTS", i) != i {
			return false
		}
	}
	return len(reachedAsTold(x)) == n
}

// reachedAsTold has the points that are reached from 0.
func reachedAsTold(x impl.Action) map[int64]bool {
	reached := map[int64]bool{0: true}
	for before := 0; before < len(reached); {
		before = len(reached)
		for i := range x.S {
			if reached[int64(i)] {
				reached[x.S[i]], reached[x.T[i]] = true, true
			}
		}
	}
	return reached
}

// actionOf has T such that T, then S, do what u does.
func actionOf(s, u []int64) impl.Action {
	x := impl.Action{S: slices.Clone(s)}
	for _, i := range u {
		x.T = append(x.T, s[i])
	}
	return x
}

// randomCycles puts the points into cycles of the length, but for some that stay alone.
func randomCycles(random *rand.Rand, n, length, alone int) []int64 {
	led, order := pointsTo(n), random.Perm(n)
	for rest := order; len(rest) >= length+alone; rest = rest[length:] {
		for i := range length {
			led[rest[i]] = int64(rest[(i+1)%length])
		}
	}
	return led
}

// randomLists has lists of n points that are an action, but for the limit of points.
func randomLists(random *rand.Rand, n int) impl.Action {
	for {
		x := actionOf(randomCycles(random, n, 2, random.Intn(3)), randomCycles(random, n, 3, random.Intn(3)))
		if len(reachedAsTold(x)) == n {
			return x
		}
	}
}

// actionsByGroup finds one action of n points for each group. It leads the least point that is not led
// yet by S, or by T, then S, to itself or to others, of which those that are new get the next numbers.
func actionsByGroup(n int64) []impl.Action {
	var list []impl.Action
	byS, byU := slices.Repeat([]int64{-1}, int(n)), slices.Repeat([]int64{-1}, int(n))
	var search func()
	try := func(led []int64, cycle ...int64) {
		for i, point := range cycle {
			led[point] = cycle[(i+1)%len(cycle)]
		}
		search()
		for _, point := range cycle {
			led[point] = -1
		}
	}
	search = func() {
		met := max(1, slices.Max(byS)+1, slices.Max(byU)+1)
		i, j := int64(slices.Index(byS, -1)), int64(slices.Index(byU, -1))
		switch {
		case i >= 0 && i < met && (j < 0 || i <= j):
			try(byS, i)
			for other := i + 1; other < min(met+1, n); other++ {
				if byS[other] < 0 {
					try(byS, i, other)
				}
			}
		case j >= 0 && j < met:
			try(byU, j)
			for second := j + 1; second < min(met+1, n); second++ {
				for third := j + 1; third < min(max(met, second+1)+1, n); third++ {
					if second != third && byU[second] < 0 && byU[third] < 0 {
						try(byU, j, second, third)
					}
				}
			}
		case met == n:
			list = append(list, actionOf(byS, byU))
		}
	}
	search()
	return list
}

// smallActions has all groups of up to 6 points.
func smallActions() []impl.Action {
	var list []impl.Action
	for n := range int64(6) {
		list = append(list, actionsByGroup(n+1)...)
	}
	return list
}

// someActions has small ones, those of levels, and random ones up to the limit of points.
func someActions(t *testing.T) []impl.Action {
	t.Helper()
	list := []impl.Action{onePoint, twoPoints, ofLevel2, ofLevel5, sixTurned}
	random := rand.New(rand.NewSource(10))
	for _, n := range []int{3, 4, 6, 7, 9, 12, 20, 33, 50, 71, 72, 72} {
		list = append(list, randomLists(random, n))
	}
	for _, n := range []int64{4, 6, 9, 11, 25, 30, 55, 59} {
		list = append(list, levelAsTold(t, n))
	}
	return list
}

// levelAsTold multiplies the coset matrices.
func levelAsTold(t *testing.T, n int64) impl.Action {
	t.Helper()
	told := toldLevelOf(n)
	var x impl.Action
	for i := range told.line {
		byS, _ := exactProduct(told.matrixOf(t, i), s)
		byT, _ := exactProduct(told.matrixOf(t, i), powerOfT(1))
		x.S, x.T = append(x.S, told.cosetOf(byS)), append(x.T, told.cosetOf(byT))
	}
	return x
}

// powerOfList leads each point k times, k at least 0, by squares.
func powerOfList(led []int64, k int64) []int64 {
	power, square := pointsTo(len(led)), slices.Clone(led)
	for ; k > 0; k /= 2 {
		if k%2 == 1 {
			power = ledByBoth(power, square)
		}
		square = ledByBoth(square, square)
	}
	return power
}

func ledByBoth(first, second []int64) []int64 {
	var list []int64
	for _, i := range first {
		list = append(list, second[i])
	}
	return list
}

// ledByMatrixAsTold goes along the chain as it is told.
func ledByMatrixAsTold(t *testing.T, x impl.Action, m impl.Matrix, i int64) int64 {
	t.Helper()
	back := make([]int64, len(x.T))
	for j, k := range x.T {
		back[k] = int64(j)
	}
	_, chain := chainAsTold(t, m)
	for at, q := range chain {
		if at > 0 {
			i = x.S[i]
		}
		if q < 0 {
			i = powerOfList(back, -q)[i]
		} else {
			i = powerOfList(x.T, q)[i]
		}
	}
	return i
}

// matricesForPoints has small ones, great ones, and those at MaxEntry.
func matricesForPoints(t *testing.T) []impl.Matrix {
	t.Helper()
	list := append(someMatrices(t, 1), one, opposite(one), s, opposite(s), u, cat, opposite(cat), powerOfT(2), powerOfT(-7), powerOfT(72), powerOfT(1-most), opposite(powerOfT(most)))
	limit := limitMatrix(t)
	list = append(list, limit, opposite(limit), impl.Matrix{limit[3], -limit[1], -limit[2], limit[0]})
	for i, m := range wordMatrices() {
		if i%16 == 0 {
			list = append(list, m)
		}
	}
	return list
}

// randomWord is one of just so many letters.
func randomWord(random *rand.Rand, length int) string {
	word := make([]byte, length)
	for i := range word {
		word[i] = "STtLl"[random.Intn(5)]
	}
	return string(word)
}

// randomNumbers are those of all points, each once.
func randomNumbers(random *rand.Rand, n int) []int64 {
	var list []int64
	for _, i := range random.Perm(n) {
		list = append(list, int64(i))
	}
	return list
}

func renumberedAsTold(x impl.Action, p []int64) impl.Action {
	y := impl.Action{S: make([]int64, len(p)), T: make([]int64, len(p))}
	for i := range p {
		y.S[p[i]] = p[x.S[i]]
		y.T[p[i]] = p[x.T[i]]
	}
	return y
}

// formAsTold gives the next free number to each point that is met first.
func formAsTold(x impl.Action, i int64) impl.Action {
	numbers := map[int64]int64{i: 0}
	for number := int64(0); len(numbers) < len(x.S); number++ {
		for point, itsNumber := range numbers {
			if itsNumber != number {
				continue
			}
			for _, led := range [][]int64{x.S, x.T} {
				if _, met := numbers[led[point]]; !met {
					numbers[led[point]] = int64(len(numbers))
				}
			}
			break
		}
	}
	p := make([]int64, len(x.S))
	for point, number := range numbers {
		p[point] = number
	}
	return renumberedAsTold(x, p)
}

// haveSameGroups leads both points at once: the matrices that lead i to itself are those that lead j to
// itself if none of both comes with two others.
func haveSameGroups(x impl.Action, i int64, y impl.Action, j int64) bool {
	met := [][2]int64{{i, j}}
	for at := 0; at < len(met); at++ {
		a, b := met[at][0], met[at][1]
		for _, next := range [][2]int64{{x.S[a], y.S[b]}, {x.T[a], y.T[b]}} {
			known := false
			for _, other := range met {
				if other == next {
					known = true
				} else if other[0] == next[0] || other[1] == next[1] {
					return false
				}
			}
			if !known {
				met = append(met, next)
			}
		}
	}
	return true
}

func countConjugatesAsTold(x impl.Action) int64 {
	count := int64(0)
	for i := range int64(len(x.S)) {
		if !slices.ContainsFunc(pointsTo(int(i)), func(j int64) bool { return haveSameGroups(x, i, x, j) }) {
			count++
		}
	}
	return count
}

// badActions has what is no action, each one because of just one thing where this can be.
func badActions() []impl.Action {
	random := rand.New(rand.NewSource(73))
	list := []impl.Action{
		{}, {S: []int64{}, T: []int64{}}, {S: []int64{0}}, {T: []int64{0}},
		{S: []int64{0}, T: []int64{0, 1}}, {S: []int64{0, 1}, T: []int64{0}}, {S: []int64{1, 0}, T: []int64{1, 0, 2}}, {S: []int64{1, 0, 2}, T: []int64{1, 0}},
		{S: ofLevel2.S, T: []int64{0, 2, 1, 3}}, {S: []int64{1, 0, 2, 3}, T: ofLevel2.T},
		// A number comes twice.
		{S: []int64{0, 0}, T: []int64{1, 0}}, {S: []int64{1, 0}, T: []int64{1, 1}}, {S: []int64{1, 0, 0}, T: ofLevel2.T}, {S: ofLevel2.S, T: []int64{0, 2, 2}},
		// S is not led back by S.
		{S: []int64{1, 2, 0}, T: []int64{0, 1, 2}}, {S: []int64{1, 2, 0}, T: []int64{1, 2, 0}}, {S: []int64{1, 2, 3, 0}, T: []int64{3, 0, 1, 2}},
		// T, then S, have another order.
		{S: []int64{0, 1}, T: []int64{1, 0}}, {S: []int64{1, 0}, T: []int64{0, 1}}, {S: []int64{1, 0, 2}, T: []int64{1, 2, 0}}, {S: []int64{1, 0, 3, 2}, T: []int64{2, 3, 0, 1}},
		// Not all points are reached.
		{S: []int64{0, 1}, T: []int64{0, 1}}, {S: []int64{0, 2, 1}, T: []int64{0, 2, 1}}, {S: []int64{1, 0, 2}, T: []int64{1, 0, 2}}, {S: []int64{1, 0, 2, 3}, T: []int64{0, 2, 1, 3}},
		{S: []int64{1, 0, 2, 4, 3, 5}, T: []int64{0, 2, 1, 3, 5, 4}}, {S: make([]int64, 72), T: make([]int64, 72)}, {S: pointsTo(72), T: pointsTo(72)},
		// There are too many points.
		randomLists(random, 73), randomLists(random, 96), {S: pointsTo(73), T: pointsTo(73)}, {S: make([]int64, 1000), T: make([]int64, 1000)},
	}
	for _, x := range append(beyond(), -1, 3, 72, 73) {
		list = append(list, impl.Action{S: []int64{x}, T: []int64{0}}, impl.Action{S: []int64{0}, T: []int64{x}})
		for i := range 3 {
			wrongS, wrongT := copied(ofLevel2), copied(ofLevel2)
			wrongS.S[i], wrongT.T[i] = x, x
			list = append(list, wrongS, wrongT)
		}
	}
	return list
}

func badPoints(n int) []int64 {
	return append(beyond(), -1, -2, int64(n), int64(n)+1, 100, -int64(n))
}

func badWordsOfPoints() []string {
	return []string{
		"U", "V", "I", "s", "u", "R", "0", " ", "\n", "\x00", "\xff", "-S", "S ", " S", "ST\n", "TxL", "S,T", "\u017f", "T\u0301", "SU", "US",
		strings.Repeat("T", 201), strings.Repeat("S", 201), strings.Repeat("tLlTS", 40) + "l", strings.Repeat("x", 200), strings.Repeat("S", 199) + "U", "U" + strings.Repeat("S", 199), strings.Repeat("S", 1000),
	}
}

// badNumberings are too short, too long, have a point twice, or none of the points.
func badNumberings(n int) [][]int64 {
	all := pointsTo(n)
	list := [][]int64{nil, {}, all[1:], all[:n-1], append(pointsTo(n), 0), append(pointsTo(n), int64(n)), pointsTo(n + 1), append(pointsTo(n), -1)}
	if n > 1 {
		list = append(list, make([]int64, n), slices.Repeat([]int64{int64(n - 1)}, n), append([]int64{all[1]}, all[1:]...), append(slices.Clone(all[:n-1]), 0))
	}
	for _, x := range badPoints(n) {
		list = append(list, append([]int64{x}, all[1:]...), append(slices.Clone(all[:n-1]), x))
	}
	return list
}

func wantAction(t *testing.T, what string, x impl.Action, code int64, want impl.Action) {
	t.Helper()
	if !areSameLists(x, want) || code != impl.ErrNone {
		t.Errorf("%s = %v, %d, not %v", what, x, code, want)
	}
}

func wantNoAction(t *testing.T, what string, x impl.Action, code int64, want int64) {
	t.Helper()
	if len(x.S) != 0 || len(x.T) != 0 || code != want {
		t.Errorf("%s = %v, %d, not the error %d", what, x, code, want)
	}
}

func wantIsAction(t *testing.T, x impl.Action, want bool) {
	t.Helper()
	if answer := impl.IsAction(x); answer != want {
		t.Errorf("IsAction(%v) = %t", x, answer)
	}
}

func wantLed(t *testing.T, x impl.Action, word string, i, want int64) {
	t.Helper()
	point, code := impl.LeadPoint(x, word, i)
	wantNumber(t, fmt.Sprintf("LeadPoint(%v, %q, %d)", x, word, i), point, code, want)
}

func wantNotLed(t *testing.T, x impl.Action, word string, i, want int64) {
	t.Helper()
	point, code := impl.LeadPoint(x, word, i)
	wantNoNumber(t, fmt.Sprintf("LeadPoint(%v, %q, %d)", x, word, i), point, code, want)
}

func wantLedByMatrix(t *testing.T, x impl.Action, m impl.Matrix, i, want int64) {
	t.Helper()
	point, code := impl.LeadByMatrix(x, m, i)
	wantNumber(t, fmt.Sprintf("LeadByMatrix(%v, %v, %d)", x, m, i), point, code, want)
}

func wantNotLedByMatrix(t *testing.T, x impl.Action, m impl.Matrix, i, want int64) {
	t.Helper()
	point, code := impl.LeadByMatrix(x, m, i)
	wantNoNumber(t, fmt.Sprintf("LeadByMatrix(%v, %v, %d)", x, m, i), point, code, want)
}

func wantCycles(t *testing.T, x impl.Action, want [][]int64) {
	t.Helper()
	cycles, code := impl.CyclesOf(x)
	wantLists(t, fmt.Sprintf("CyclesOf(%v)", x), cycles, code, want)
}

func wantKeptPoints(t *testing.T, x impl.Action, wantS, wantU int64) {
	t.Helper()
	keptByS, keptByU, code := impl.KeptPoints(x)
	if keptByS != wantS || keptByU != wantU || code != impl.ErrNone {
		t.Errorf("KeptPoints(%v) = %d, %d, %d, not %d, %d", x, keptByS, keptByU, code, wantS, wantU)
	}
}

func wantGenus(t *testing.T, x impl.Action, want int64) {
	t.Helper()
	genus, code := impl.GenusOfAction(x)
	wantNumber(t, fmt.Sprintf("GenusOfAction(%v)", x), genus, code, want)
}

func wantRenumbered(t *testing.T, x impl.Action, p []int64, want impl.Action) {
	t.Helper()
	y, code := impl.RenumberAction(x, p)
	wantAction(t, fmt.Sprintf("RenumberAction(%v, %v)", x, p), y, code, want)
}

func wantNotRenumbered(t *testing.T, x impl.Action, p []int64, want int64) {
	t.Helper()
	y, code := impl.RenumberAction(x, p)
	wantNoAction(t, fmt.Sprintf("RenumberAction(%v, %v)", x, p), y, code, want)
}

func wantFormFrom(t *testing.T, x impl.Action, i int64, want impl.Action) {
	t.Helper()
	form, code := impl.FormFrom(x, i)
	wantAction(t, fmt.Sprintf("FormFrom(%v, %d)", x, i), form, code, want)
}

func wantNoFormFrom(t *testing.T, x impl.Action, i, want int64) {
	t.Helper()
	form, code := impl.FormFrom(x, i)
	wantNoAction(t, fmt.Sprintf("FormFrom(%v, %d)", x, i), form, code, want)
}

func wantEqualGroups(t *testing.T, x, y impl.Action, want bool) {
	t.Helper()
	equal, code := impl.HaveEqualGroups(x, y)
	wantAnswer(t, fmt.Sprintf("HaveEqualGroups(%v, %v)", x, y), equal, code, want)
}

func wantNoEqualGroups(t *testing.T, x, y impl.Action) {
	t.Helper()
	equal, code := impl.HaveEqualGroups(x, y)
	wantNoAnswer(t, fmt.Sprintf("HaveEqualGroups(%v, %v)", x, y), equal, code, impl.ErrInvalid)
}

func wantConjugates(t *testing.T, x impl.Action, want int64) {
	t.Helper()
	count, code := impl.CountConjugates(x)
	wantNumber(t, fmt.Sprintf("CountConjugates(%v)", x), count, code, want)
}

func wantSubgroups(t *testing.T, n, want int64) {
	t.Helper()
	count, code := impl.CountSubgroups(n)
	wantNumber(t, fmt.Sprintf("CountSubgroups(%d)", n), count, code, want)
}

func TestMaxPoints(t *testing.T) {
	if impl.MaxPoints != 72 {
		t.Errorf("MaxPoints is %d", impl.MaxPoints)
	}
}

// TestIsActionOfAllLists goes through all lists of up to 4 points, some with numbers out of range.
func TestIsActionOfAllLists(t *testing.T) {
	for n, want := range []int64{0, 1, 1, 8, 48} {
		numbers := pointsTo(n)
		if n < 4 {
			numbers = append(numbers, -1, int64(n))
		}
		count, lists := int64(0), 1
		for range 2 * n {
			lists *= len(numbers)
		}
		for i := range lists {
			var both []int64
			for range 2 * n {
				both = append(both, numbers[i%len(numbers)])
				i /= len(numbers)
			}
			x := impl.Action{S: both[:n], T: both[n:]}
			wantIsAction(t, x, isActionAsTold(x))
			if impl.IsAction(x) {
				count++
			}
		}
		if count != want {
			t.Errorf("there are %d actions of %d points, not %d", count, n, want)
		}
	}
}

func TestIsAction(t *testing.T) {
	for _, x := range append(someActions(t), smallActions()...) {
		if !isActionAsTold(x) {
			t.Fatalf("%v is no action as told", x)
		}
		wantIsAction(t, x, true)
	}
	random := rand.New(rand.NewSource(11))
	for n := 1; n <= impl.MaxPoints; n++ {
		x := randomLists(random, n)
		wantIsAction(t, x, true)
		// Most of what is changed is none.
		for range 20 {
			y := copied(x)
			list := [][]int64{y.S, y.T}[random.Intn(2)]
			i, j := random.Intn(n), random.Intn(n)
			list[i], list[j] = list[j], list[i]
			wantIsAction(t, y, isActionAsTold(y))
		}
	}
	for _, bad := range badActions() {
		if isActionAsTold(bad) {
			t.Fatalf("%v is an action as told", bad)
		}
		wantIsAction(t, bad, false)
	}
}

func TestActionsRefused(t *testing.T) {
	for _, bad := range badActions() {
		cycles, code := impl.CyclesOf(bad)
		wantNoLists(t, fmt.Sprintf("CyclesOf(%v)", bad), cycles, code, impl.ErrInvalid)
		keptByS, keptByU, code := impl.KeptPoints(bad)
		if keptByS != 0 || keptByU != 0 || code != impl.ErrInvalid {
			t.Errorf("KeptPoints(%v) = %d, %d, %d", bad, keptByS, keptByU, code)
		}
		genus, code := impl.GenusOfAction(bad)
		wantNoNumber(t, fmt.Sprintf("GenusOfAction(%v)", bad), genus, code, impl.ErrInvalid)
		count, code := impl.CountConjugates(bad)
		wantNoNumber(t, fmt.Sprintf("CountConjugates(%v)", bad), count, code, impl.ErrInvalid)
		for _, x := range []impl.Action{bad, onePoint, ofLevel5} {
			wantNoEqualGroups(t, bad, x)
			wantNoEqualGroups(t, x, bad)
		}
		// ErrInvalid comes ahead of ErrRange.
		for _, i := range []int64{0, 1, -1, 72, 1 << 32, -1 << 63} {
			for _, word := range []string{"", "ST", "U", strings.Repeat("T", 201)} {
				wantNotLed(t, bad, word, i, impl.ErrInvalid)
			}
			for _, m := range []impl.Matrix{one, cat, {}} {
				wantNotLedByMatrix(t, bad, m, i, impl.ErrInvalid)
			}
			wantNoFormFrom(t, bad, i, impl.ErrInvalid)
		}
		for _, p := range [][]int64{nil, {0}, {0, 1, 2}, {0, 0, 0}, pointsTo(len(bad.S)), make([]int64, len(bad.S))} {
			wantNotRenumbered(t, bad, p, impl.ErrInvalid)
		}
	}
}

func TestActionOfLevel(t *testing.T) {
	for _, n := range shortLevels() {
		x, code := impl.ActionOfLevel(n)
		wantAction(t, fmt.Sprintf("ActionOfLevel(%d)", n), x, code, levelAsTold(t, n))
		wantIsAction(t, x, true)
	}
	for n, want := range map[int64]impl.Action{1: onePoint, 2: ofLevel2, 5: ofLevel5, 3: {S: []int64{1, 0, 3, 2}, T: []int64{0, 2, 3, 1}}} {
		x, code := impl.ActionOfLevel(n)
		wantAction(t, fmt.Sprintf("ActionOfLevel(%d)", n), x, code, want)
	}
	for n, want := range map[int64]int{30: 72, 36: 72, 40: 72, 41: 42, 44: 72, 45: 72, 46: 72, 55: 72, 59: 60} {
		if x, code := impl.ActionOfLevel(n); len(x.S) != want || len(x.T) != want || code != impl.ErrNone {
			t.Errorf("ActionOfLevel(%d) = %v, %d, not of %d points", n, x, code, want)
		}
	}
	// The first one of these is the first level that has more than MaxPoints cosets.
	for _, n := range longLevels() {
		x, code := impl.ActionOfLevel(n)
		wantNoAction(t, fmt.Sprintf("ActionOfLevel(%d)", n), x, code, impl.ErrLimit)
	}
	for _, n := range badLevels() {
		x, code := impl.ActionOfLevel(n)
		wantNoAction(t, fmt.Sprintf("ActionOfLevel(%d)", n), x, code, impl.ErrRange)
	}
}

// Actions of levels have the widths and the genus of chapter 6.
func TestActionsOfLevelsHaveWidthsAndGenus(t *testing.T) {
	for _, n := range shortLevels() {
		x, _ := impl.ActionOfLevel(n)
		cycles, code := impl.CyclesOf(x)
		cusps, _ := impl.CuspsOf(n)
		for i, cycle := range cycles {
			cycles[i] = slices.Sorted(slices.Values(cycle))
		}
		wantLists(t, fmt.Sprintf("CyclesOf the level %d", n), cycles, code, cusps)
		keptByS, keptByU, _ := impl.CountKept(n)
		wantKeptPoints(t, x, keptByS, keptByU)
		genus, _ := impl.GenusOf(n)
		wantGenus(t, x, genus)
		if index, _ := impl.IndexOf(0, n); int64(len(x.S)) != index {
			t.Errorf("the action of the level %d has %d points, not %d", n, len(x.S), index)
		}
	}
}

func TestCyclesOf(t *testing.T) {
	for _, x := range append(someActions(t), smallActions()...) {
		cycles, code := impl.CyclesOf(x)
		if code != impl.ErrNone {
			t.Errorf("CyclesOf(%v) has the code %d", x, code)
		}
		var all, firsts []int64
		for _, cycle := range cycles {
			for i, point := range cycle {
				if next := cycle[(i+1)%len(cycle)]; x.T[point] != next {
					t.Errorf("CyclesOf(%v) = %v: %d is not led to %d", x, cycles, point, next)
				}
			}
			if cycle[0] != slices.Min(cycle) {
				t.Errorf("CyclesOf(%v) = %v", x, cycles)
			}
			firsts, all = append(firsts, cycle[0]), append(all, cycle...)
		}
		slices.Sort(all)
		if !slices.IsSorted(firsts) || !slices.Equal(all, pointsTo(len(x.S))) {
			t.Errorf("CyclesOf(%v) = %v", x, cycles)
		}
	}
	wantCycles(t, onePoint, [][]int64{{0}})
	wantCycles(t, twoPoints, [][]int64{{0, 1}})
	wantCycles(t, ofLevel2, [][]int64{{0}, {1, 2}})
	wantCycles(t, ofLevel5, [][]int64{{0}, {1, 2, 3, 4, 5}})
	// As T leads, not ascending.
	wantCycles(t, impl.Action{S: []int64{1, 0, 3, 2}, T: []int64{3, 1, 0, 2}}, [][]int64{{0, 3, 2}, {1}})
}

// TestKeptPointsAndGenus counts cycles instead of kept points for the genus.
func TestKeptPointsAndGenus(t *testing.T) {
	for _, x := range append(someActions(t), smallActions()...) {
		n := int64(len(x.S))
		byU := ledByBoth(x.T, x.S)
		keptByS, keptByU, cyclesOfT := int64(0), int64(0), int64(0)
		for i := range n {
			if x.S[i] == i {
				keptByS++
			}
			if byU[i] == i {
				keptByU++
			}
			least := true
			for j := x.T[i]; j != i; j = x.T[j] {
				least = least && i < j
			}
			if least {
				cyclesOfT++
			}
		}
		wantKeptPoints(t, x, keptByS, keptByU)
		cyclesOfS, cyclesOfU := (n+keptByS)/2, (n+2*keptByU)/3
		wantGenus(t, x, (2+n-cyclesOfS-cyclesOfU-cyclesOfT)/2)
	}
	wantKeptPoints(t, onePoint, 1, 1)
	wantKeptPoints(t, twoPoints, 0, 2)
	wantKeptPoints(t, ofLevel2, 1, 0)
	wantKeptPoints(t, ofLevel5, 2, 0)
	// T, then S, lead all points to themselves, or none: S, then T, would do so, too.
	wantKeptPoints(t, impl.Action{S: []int64{0, 1, 2}, T: []int64{1, 2, 0}}, 3, 0)
	wantGenus(t, onePoint, 0)
	wantGenus(t, twoPoints, 0)
	wantGenus(t, sixTurned, 1)
	x, _ := impl.ActionOfLevel(11)
	wantGenus(t, x, 1)
	x, _ = impl.ActionOfLevel(59)
	wantGenus(t, x, 5)
}

func TestLeadPoint(t *testing.T) {
	random := rand.New(rand.NewSource(12))
	short := wordsOf("STtLl", 3)
	for _, x := range append(someActions(t), smallActions()...) {
		words := slices.Clone(short)
		for _, length := range []int{4, 7, 40, 199, 200} {
			words = append(words, randomWord(random, length))
		}
		for _, word := range words {
			for _, i := range []int64{0, int64(len(x.S)) - 1, random.Int63n(int64(len(x.S)))} {
				wantLed(t, x, word, i, ledAsTold(x, word, i))
			}
		}
	}
}

func TestLeadPointExamples(t *testing.T) {
	for _, c := range []struct {
		x    impl.Action
		word string
		want []int64
	}{
		{onePoint, "", []int64{0}}, {onePoint, "STtLl", []int64{0}}, {twoPoints, "S", []int64{1, 0}}, {twoPoints, "L", []int64{1, 0}}, {twoPoints, "l", []int64{1, 0}}, {twoPoints, "ST", []int64{0, 1}},
		{ofLevel2, "", []int64{0, 1, 2}}, {ofLevel2, "S", []int64{1, 0, 2}}, {ofLevel2, "T", []int64{0, 2, 1}}, {ofLevel2, "ST", []int64{2, 0, 1}}, {ofLevel2, "TS", []int64{1, 2, 0}},
		{ofLevel5, "", []int64{0, 1, 2, 3, 4, 5}}, {ofLevel5, "T", []int64{0, 2, 3, 4, 5, 1}}, {ofLevel5, "t", []int64{0, 5, 1, 2, 3, 4}}, {ofLevel5, "L", []int64{2, 1, 4, 5, 3, 0}}, {ofLevel5, "l", []int64{5, 1, 0, 4, 2, 3}},
		{ofLevel5, strings.Repeat("T", 200), []int64{0, 1, 2, 3, 4, 5}}, {ofLevel5, strings.Repeat("T", 199), []int64{0, 5, 1, 2, 3, 4}}, {ofLevel5, strings.Repeat("t", 199), []int64{0, 2, 3, 4, 5, 1}},
		{ofLevel5, strings.Repeat("L", 199), []int64{5, 1, 0, 4, 2, 3}}, {ofLevel5, strings.Repeat("l", 199), []int64{2, 1, 4, 5, 3, 0}}, {ofLevel5, strings.Repeat("S", 200), []int64{0, 1, 2, 3, 4, 5}},
	} {
		for i, want := range c.want {
			wantLed(t, c.x, c.word, int64(i), want)
		}
	}
}

func TestLeadPointRefuses(t *testing.T) {
	for _, x := range []impl.Action{onePoint, ofLevel2, levelAsTold(t, 30)} {
		for _, i := range append(badPoints(len(x.S)), 0, int64(len(x.S))-1) {
			for _, word := range badWordsOfPoints() {
				wantNotLed(t, x, word, i, impl.ErrRange)
			}
		}
		for _, i := range badPoints(len(x.S)) {
			for _, word := range []string{"", "S", "T", strings.Repeat("t", 200)} {
				wantNotLed(t, x, word, i, impl.ErrRange)
			}
			for _, m := range append(someMatrices(t, 1), one, cat) {
				wantNotLedByMatrix(t, x, m, i, impl.ErrRange)
			}
		}
	}
	for _, x := range append(badActions()[:20], onePoint, ofLevel2, ofLevel5) {
		for _, bad := range badMatrices() {
			for _, i := range []int64{0, 1, -1, 6, 1 << 32} {
				wantNotLedByMatrix(t, x, bad, i, impl.ErrInvalid)
			}
		}
	}
}

// Promise 10, for words.
func TestWordsLeadPointsAsTheirMatrices(t *testing.T) {
	random := rand.New(rand.NewSource(13))
	short := wordsOf("STtLl", 3)
	count := 0
	for _, x := range append(someActions(t), smallActions()...) {
		words := append(slices.Clone(short), strings.Repeat("T", 200), strings.Repeat("l", 200), strings.Repeat("ST", 100), strings.Repeat("TL", 21)+strings.Repeat("lt", 21))
		for _, length := range []int{5, 10, 20, 40, 40, 60, 60} {
			word := randomWord(random, length)
			words = append(words, word, word+strings.Repeat("S", 200-length))
		}
		for _, word := range words {
			m, code := impl.MatrixOfWord(word)
			if code != impl.ErrNone {
				continue
			}
			count++
			i := random.Int63n(int64(len(x.S)))
			point, code := impl.LeadPoint(x, word, i)
			if code != impl.ErrNone {
				t.Errorf("LeadPoint(%v, %q, %d) has the code %d", x, word, i, code)
			}
			wantLedByMatrix(t, x, m, i, point)
			wantLedByMatrix(t, x, opposite(m), i, point)
		}
	}
	if count < 9000 {
		t.Errorf("just %d words have matrices", count)
	}
}

func TestLeadByMatrix(t *testing.T) {
	matrices := matricesForPoints(t)
	for _, x := range append(someActions(t), smallActions()...) {
		for at, m := range matrices {
			for _, i := range []int64{0, int64(len(x.S)) - 1, int64(at % len(x.S))} {
				wantLedByMatrix(t, x, m, i, ledByMatrixAsTold(t, x, m, i))
			}
		}
	}
	for _, c := range []struct {
		m    impl.Matrix
		want []int64
	}{
		{one, []int64{0, 1, 2, 3, 4, 5}}, {opposite(one), []int64{0, 1, 2, 3, 4, 5}}, {s, ofLevel5.S}, {opposite(s), ofLevel5.S}, {powerOfT(1), ofLevel5.T}, {opposite(powerOfT(1)), ofLevel5.T},
		{powerOfT(most), []int64{0, 1, 2, 3, 4, 5}}, {powerOfT(least), []int64{0, 1, 2, 3, 4, 5}}, {powerOfT(most - 1), []int64{0, 5, 1, 2, 3, 4}}, {powerOfT(1 - most), ofLevel5.T}, {opposite(powerOfT(most - 1)), []int64{0, 5, 1, 2, 3, 4}},
		{impl.Matrix{1, 0, 1, 1}, []int64{2, 1, 4, 5, 3, 0}}, {impl.Matrix{1, 0, -1, 1}, []int64{5, 1, 0, 4, 2, 3}}, {u, []int64{1, 5, 3, 4, 2, 0}}, {cat, []int64{2, 4, 5, 3, 0, 1}}, {impl.Matrix{0, -1, 1, most}, ofLevel5.S},
	} {
		for i, want := range c.want {
			wantLedByMatrix(t, ofLevel5, c.m, int64(i), want)
		}
	}
}

// A letter, and so a matrix, leads a coset to its products.
func TestMatricesLeadCosetsToTheirProducts(t *testing.T) {
	matrices := matricesForPoints(t)
	for _, n := range shortLevels() {
		told := toldLevelOf(n)
		x, _ := impl.ActionOfLevel(n)
		for at, m := range matrices {
			i := at % len(told.line)
			var rests impl.Matrix
			for j, number := range m {
				rests[j] = restAsTold(number, n)
			}
			product, _ := exactProduct(told.matrixOf(t, i), rests)
			wantLedByMatrix(t, x, m, int64(i), told.cosetOf(product))
		}
	}
}

// Matrices with long words, too, lead as their free words do, and one after the other as their products.
func TestMatricesLeadAsFreeWordsAndProducts(t *testing.T) {
	random := rand.New(rand.NewSource(14))
	matrices := matricesForPoints(t)
	letters := strings.NewReplacer("U", "TS", "V", "TSTS")
	for _, x := range someActions(t) {
		for _, m := range matrices {
			i := random.Int63n(int64(len(x.S)))
			point, _ := impl.LeadByMatrix(x, m, i)
			if word, code := impl.FreeWord(m); code == impl.ErrNone {
				if other := ledAsTold(x, letters.Replace(word), i); other != point {
					t.Errorf("%v leads %d to %d by %v, and to %d by %q", x, i, point, m, other, word)
				}
			}
			back, _ := impl.InverseOf(m)
			wantLedByMatrix(t, x, back, point, i)
			n := matrices[random.Intn(len(matrices))]
			if product, code := impl.ProductOf(m, n); code == impl.ErrNone {
				next, _ := impl.LeadByMatrix(x, n, point)
				wantLedByMatrix(t, x, product, i, next)
			}
		}
	}
}

func TestRenumberAction(t *testing.T) {
	random := rand.New(rand.NewSource(15))
	for _, x := range append(someActions(t), smallActions()...) {
		n := len(x.S)
		all := pointsTo(n)
		turned := append(slices.Clone(all[1:]), 0)
		turnedBack := append([]int64{int64(n) - 1}, all[:n-1]...)
		swapped := slices.Clone(all)
		swapped[0], swapped[n-1] = swapped[n-1], swapped[0]
		wantRenumbered(t, x, all, x)
		for _, p := range [][]int64{turned, turnedBack, swapped, randomNumbers(random, n), x.S, x.T} {
			y := renumberedAsTold(x, p)
			wantRenumbered(t, x, p, y)
			wantIsAction(t, y, true)
			back := make([]int64, n)
			for i, number := range p {
				back[number] = int64(i)
			}
			wantRenumbered(t, y, back, x)
		}
	}
	for _, c := range []struct {
		p    []int64
		want impl.Action
	}{
		{[]int64{0, 2, 1}, impl.Action{S: []int64{2, 1, 0}, T: []int64{0, 2, 1}}}, {[]int64{1, 2, 0}, impl.Action{S: []int64{0, 2, 1}, T: []int64{2, 1, 0}}}, {[]int64{2, 0, 1}, impl.Action{S: []int64{2, 1, 0}, T: []int64{1, 0, 2}}},
	} {
		wantRenumbered(t, ofLevel2, c.p, c.want)
	}
	for _, x := range []impl.Action{onePoint, twoPoints, ofLevel2, ofLevel5, levelAsTold(t, 30)} {
		for _, p := range badNumberings(len(x.S)) {
			wantNotRenumbered(t, x, p, impl.ErrRange)
		}
	}
}

func TestFormFrom(t *testing.T) {
	for _, x := range append(someActions(t), smallActions()...) {
		for i := range int64(len(x.S)) {
			form := formAsTold(x, i)
			wantFormFrom(t, x, i, form)
			wantIsAction(t, form, true)
			wantFormFrom(t, form, 0, form)
		}
	}
	wantFormFrom(t, onePoint, 0, onePoint)
	wantFormFrom(t, twoPoints, 1, twoPoints)
	wantFormFrom(t, ofLevel2, 0, ofLevel2)
	wantFormFrom(t, ofLevel2, 1, impl.Action{S: []int64{1, 0, 2}, T: []int64{2, 1, 0}})
	wantFormFrom(t, ofLevel2, 2, impl.Action{S: []int64{0, 2, 1}, T: []int64{1, 0, 2}})
	// S is asked first, and all of a point ahead of the next one.
	wantFormFrom(t, impl.Action{S: []int64{2, 3, 0, 1}, T: []int64{1, 2, 0, 3}}, 0, impl.Action{S: []int64{1, 0, 3, 2}, T: []int64{2, 0, 1, 3}})
	for _, x := range []impl.Action{onePoint, twoPoints, ofLevel2, ofLevel5, levelAsTold(t, 30)} {
		for _, i := range badPoints(len(x.S)) {
			wantNoFormFrom(t, x, i, impl.ErrRange)
		}
	}
}

// Promise 10, for forms: what leads a point to itself leads 0 to itself in the form from it.
func TestFormsHaveTheGroups(t *testing.T) {
	random := rand.New(rand.NewSource(16))
	words := append(wordsOf("STt", 5), strings.Repeat("T", 200))
	matrices := matricesForPoints(t)
	for _, x := range append(someActions(t), smallActions()...) {
		i := random.Int63n(int64(len(x.S)))
		form, code := impl.FormFrom(x, i)
		if code != impl.ErrNone || !haveSameGroups(x, i, form, 0) {
			t.Errorf("FormFrom(%v, %d) = %v, %d", x, i, form, code)
		}
		for _, word := range words {
			point, _ := impl.LeadPoint(x, word, i)
			other, _ := impl.LeadPoint(form, word, 0)
			if (point == i) != (other == 0) {
				t.Errorf("%q leads %d to %d in %v, and 0 to %d in the form", word, i, point, x, other)
			}
		}
		for _, m := range matrices {
			point, _ := impl.LeadByMatrix(x, m, i)
			other, _ := impl.LeadByMatrix(form, m, 0)
			if (point == i) != (other == 0) {
				t.Errorf("%v leads %d to %d in %v, and 0 to %d in the form", m, i, point, x, other)
			}
		}
	}
}

// The groups of points are conjugate: a matrix that leads 0 to the point is a conjugator.
func TestGroupsOfPointsAreConjugate(t *testing.T) {
	small, _ := impl.MatricesWithin(2)
	members := 0
	for _, x := range append(someActions(t), smallActions()...) {
		for at, g := range small {
			i, _ := impl.LeadByMatrix(x, g, 0)
			form, _ := impl.FormFrom(x, i)
			back, _ := impl.InverseOf(g)
			for _, m := range small[at%7:] {
				conjugate, code := impl.ConjugateBy(m, back)
				if code != impl.ErrNone {
					t.Fatalf("ConjugateBy(%v, %v) has the code %d", m, back, code)
				}
				point, _ := impl.LeadByMatrix(x, m, 0)
				other, _ := impl.LeadByMatrix(form, conjugate, 0)
				if (point == 0) != (other == 0) {
					t.Errorf("%v leads 0 to %d in %v, and %v leads it to %d in the form from %d", m, point, x, conjugate, other, i)
				}
				if point == 0 {
					members++
				}
			}
		}
	}
	if members < 10000 {
		t.Errorf("just %d matrices are in groups", members)
	}
}

func TestHaveEqualGroups(t *testing.T) {
	list := append(someActions(t), smallActions()...)
	for _, x := range list {
		for _, y := range list {
			wantEqualGroups(t, x, y, haveSameGroups(x, 0, y, 0))
		}
	}
	random := rand.New(rand.NewSource(17))
	met := map[bool]int{}
	for _, x := range list {
		n := len(x.S)
		for range 5 {
			// The point 0 stays, or it does not.
			stays := pointsTo(n)
			random.Shuffle(n-1, func(i, j int) { stays[i+1], stays[j+1] = stays[j+1], stays[i+1] })
			wantEqualGroups(t, x, renumberedAsTold(x, stays), true)
			wantEqualGroups(t, renumberedAsTold(x, stays), x, true)
			p := randomNumbers(random, n)
			equal := haveSameGroups(x, 0, x, int64(slices.Index(p, 0)))
			wantEqualGroups(t, x, renumberedAsTold(x, p), equal)
			met[equal]++
		}
		for i := range int64(n) {
			wantEqualGroups(t, x, formAsTold(x, i), haveSameGroups(x, 0, x, i))
		}
	}
	if met[true] < 20 || met[false] < 200 {
		t.Errorf("the answers were %v", met)
	}
	wantEqualGroups(t, onePoint, onePoint, true)
	wantEqualGroups(t, onePoint, twoPoints, false)
	wantEqualGroups(t, ofLevel2, impl.Action{S: []int64{2, 1, 0}, T: []int64{0, 2, 1}}, true)
	wantEqualGroups(t, ofLevel2, impl.Action{S: []int64{0, 2, 1}, T: []int64{2, 1, 0}}, false)
	// Just T, or just S, is another one.
	wantEqualGroups(t, impl.Action{S: []int64{1, 0, 2}, T: []int64{0, 2, 1}}, impl.Action{S: []int64{1, 0, 2}, T: []int64{2, 1, 0}}, false)
	wantEqualGroups(t, impl.Action{S: []int64{0, 2, 1, 3}, T: []int64{1, 2, 3, 0}}, impl.Action{S: []int64{0, 1, 3, 2}, T: []int64{1, 2, 3, 0}}, false)
	wantEqualGroups(t, impl.Action{S: []int64{0, 1, 2}, T: []int64{1, 2, 0}}, impl.Action{S: []int64{0, 1, 2}, T: []int64{2, 0, 1}}, true)
}

func TestCountConjugates(t *testing.T) {
	for _, x := range append(someActions(t), smallActions()...) {
		want := countConjugatesAsTold(x)
		wantConjugates(t, x, want)
		turned := append(pointsTo(len(x.S))[1:], 0)
		wantConjugates(t, renumberedAsTold(x, turned), want)
	}
	for _, n := range shortLevels() {
		x, _ := impl.ActionOfLevel(n)
		wantConjugates(t, x, countConjugatesAsTold(x))
	}
	wantConjugates(t, onePoint, 1)
	wantConjugates(t, twoPoints, 1)
	wantConjugates(t, impl.Action{S: []int64{0, 1, 2}, T: []int64{1, 2, 0}}, 1)
	wantConjugates(t, ofLevel2, 3)
	wantConjugates(t, ofLevel5, 6)
	wantConjugates(t, sixTurned, 1)
}

func TestCountSubgroups(t *testing.T) {
	for i, want := range []int64{1, 1, 4, 8, 5, 22, 42, 40, 120, 265, 286, 764} {
		n := int64(i + 1)
		wantSubgroups(t, n, want)
		list := actionsByGroup(n)
		for at, x := range list {
			wantIsAction(t, x, true)
			// All pairs of the greatest numbers would take long.
			for _, y := range list[max(0, at-40):at] {
				wantEqualGroups(t, x, y, false)
			}
		}
		forms := map[string]bool{}
		for _, x := range list {
			form, _ := impl.FormFrom(x, 0)
			forms[fmt.Sprint(form)] = true
		}
		wantSubgroups(t, n, int64(len(forms)))
		wantSubgroups(t, n, int64(len(list)))
	}
	for _, n := range append(beyond(), 0, -1, -3, -12, mostCountedPoints+1, mostCountedPoints+2, 72) {
		count, code := impl.CountSubgroups(n)
		wantNoNumber(t, fmt.Sprintf("CountSubgroups(%d)", n), count, code, impl.ErrRange)
	}
}

// TestActionsAreNotChanged has arguments with room behind them.
func TestActionsAreNotChanged(t *testing.T) {
	roomy := func(list []int64) []int64 {
		return append(append(make([]int64, 0, len(list)+3), list...), -5, -6, -7)[:len(list)]
	}
	for _, x := range []impl.Action{onePoint, ofLevel2, ofLevel5, levelAsTold(t, 30)} {
		p := append(pointsTo(len(x.S))[1:], 0)
		given, numbers := impl.Action{S: roomy(x.S), T: roomy(x.T)}, roomy(p)
		for range 2 {
			impl.IsAction(given)
			impl.CyclesOf(given)
			impl.KeptPoints(given)
			impl.GenusOfAction(given)
			impl.LeadPoint(given, "STtLl", 0)
			impl.LeadByMatrix(given, cat, 0)
			impl.RenumberAction(given, numbers)
			impl.FormFrom(given, int64(len(x.S))-1)
			impl.HaveEqualGroups(given, given)
			impl.CountConjugates(given)
		}
		for _, c := range [][2][]int64{{given.S, x.S}, {given.T, x.T}, {numbers, p}} {
			behind := c[0][len(p) : len(p)+3]
			if !slices.Equal(c[0], c[1]) || !slices.Equal(behind, []int64{-5, -6, -7}) {
				t.Errorf("%v became %v, with %v behind it", c[1], c[0], behind)
			}
		}
	}
}

// TestActionsAreNew changes all of a result, also behind its lists, and asks once more.
func TestActionsAreNew(t *testing.T) {
	spoil := func(list []int64) {
		full := list[:cap(list)]
		for i := range full {
			full[i] = -7
		}
	}
	for _, given := range []impl.Action{onePoint, twoPoints, ofLevel2, ofLevel5} {
		x, n := copied(given), len(given.S)
		all := pointsTo(n)
		cycles, _ := impl.CyclesOf(given)
		var wantedCycles [][]int64
		for _, cycle := range cycles {
			wantedCycles = append(wantedCycles, slices.Clone(cycle))
		}
		for _, cycle := range cycles {
			spoil(cycle[len(cycle):])
		}
		wantLists(t, "CyclesOf behind its lists", cycles, impl.ErrNone, wantedCycles)
		for range 2 {
			wantCycles(t, x, wantedCycles)
			wantRenumbered(t, x, all, given)
			form := formAsTold(given, 0)
			wantFormFrom(t, x, 0, form)
			cycles, _ := impl.CyclesOf(x)
			renumbered, _ := impl.RenumberAction(x, all)
			first, _ := impl.FormFrom(x, 0)
			for _, cycle := range cycles {
				spoil(cycle)
			}
			for _, y := range []impl.Action{renumbered, first} {
				wanted := slices.Clone(y.T)
				spoil(y.S)
				if !slices.Equal(y.T, wanted) {
					t.Errorf("both lists of a result for %v share memory", given)
				}
				spoil(y.T)
			}
			if !areSameLists(x, given) || !slices.Equal(all, pointsTo(n)) {
				t.Fatalf("%v became %v, and the numbers %v", given, x, all)
			}
		}
	}
	for _, n := range []int64{1, 2, 30} {
		want := levelAsTold(t, n)
		for range 2 {
			x, code := impl.ActionOfLevel(n)
			wantAction(t, fmt.Sprintf("ActionOfLevel(%d)", n), x, code, want)
			spoil(x.S)
			if !slices.Equal(x.T, want.T) {
				t.Errorf("both lists of ActionOfLevel(%d) share memory", n)
			}
			spoil(x.T)
		}
	}
}
