package tests

import (
	"fmt"
	"math/rand"
	"regexp"
	"slices"
	"strconv"
	"strings"
	"sync"
	"testing"

	"loop.example/g01380/impl"
)

var newDesk = impl.Desk{Matrix: cat, Fraction: infinity, Level: 2}

var (
	shapeOfLine   = regexp.MustCompile(`^(?s)([a-z]+)( [^ ]*)?$`)
	shapeOfNumber = regexp.MustCompile(`^ (0|[1-9][0-9]{0,8})$`)
)

func deskOf(m impl.Matrix, f impl.Fraction, n int64) impl.Desk {
	return impl.Desk{Matrix: m, Fraction: f, Level: n}
}

// withMatrix, withFraction and withLevel are the new desk but for one part.
func withMatrix(m impl.Matrix) impl.Desk {
	return deskOf(m, infinity, 2)
}

func withFraction(f impl.Fraction) impl.Desk {
	return deskOf(cat, f, 2)
}

func withLevel(n int64) impl.Desk {
	return deskOf(cat, infinity, n)
}

// wordsAlone are the commands without a word behind them.
func wordsAlone() []string {
	return strings.Fields("inverse lead kept show look see trace kind order chain letters runs free elliptic shift cyclic root reciprocal mirrored where cusps cusp fixed genus path mix cycles reset")
}

func wordsWithText() []string {
	return strings.Fields("matrix name word times by fraction")
}

func wordsWithNumber() []string {
	return strings.Fields("power coset level classes index member dimension goes subgroups")
}

func isDeskAsTold(d impl.Desk) bool {
	return impl.IsMatrix(d.Matrix) && impl.IsFraction(d.Fraction) && 1 <= d.Level && d.Level <= 60
}

// printed takes what Go prints, but for the bytes between the numbers.
func printed(x any) string {
	switch x := x.(type) {
	case string:
		return x
	case bool:
		if x {
			return "yes"
		}
		return "no"
	case impl.Matrix:
		return strings.ReplaceAll(strings.Trim(fmt.Sprint(x), "[]"), " ", ",")
	case impl.Fraction:
		return strings.ReplaceAll(strings.Trim(fmt.Sprint(x), "[]"), " ", "/")
	case [][]int64:
		return strings.ReplaceAll(strings.Trim(fmt.Sprint(x), "[]"), "] [", ";")
	case []impl.Matrix:
		return printedAll(x)
	case []impl.Fraction:
		return printedAll(x)
	}
	return strings.Trim(fmt.Sprint(x), "[]")
}

func printedAll[Part any](list []Part) string {
	text := ""
	for i, x := range list {
		if i > 0 {
			text += " "
		}
		text += printed(x)
	}
	return text
}

// toldLine has what a line does: the desk behind it, the results that are put out, and the code.
type toldLine struct {
	desk    impl.Desk
	results []any
	code    int64
}

func (x toldLine) puts(code int64, results ...any) toldLine {
	return toldLine{x.desk, results, code}
}

func (x toldLine) matrix(m impl.Matrix, code int64) toldLine {
	x.desk.Matrix = m
	return x.puts(code, m)
}

func (x toldLine) fraction(f impl.Fraction, code int64) toldLine {
	x.desk.Fraction = f
	return x.puts(code, f)
}

func (x toldLine) number(number, code int64) toldLine {
	return x.puts(code, number)
}

func (x toldLine) answer(answer bool, code int64) toldLine {
	return x.puts(code, answer)
}

func (x toldLine) word(word string, code int64) toldLine {
	return x.puts(code, word)
}

func (x toldLine) list(list []int64, code int64) toldLine {
	return x.puts(code, list)
}

func (x toldLine) lists(lists [][]int64, code int64) toldLine {
	return x.puts(code, lists)
}

// aloneAsTold does the lines that are nothing but a command.
func aloneAsTold(d impl.Desk, name string) (toldLine, bool) {
	x := toldLine{desk: d}
	m, f, n := d.Matrix, d.Fraction, d.Level
	switch name {
	case "inverse":
		return x.matrix(impl.InverseOf(m)), true
	case "lead":
		return x.fraction(impl.LeadFraction(m, f)), true
	case "kept":
		return x.fraction(impl.KeptFraction(m)), true
	case "show":
		return x.matrix(m, impl.ErrNone), true
	case "look":
		return x.fraction(f, impl.ErrNone), true
	case "see":
		return x.number(n, impl.ErrNone), true
	case "reset":
		x.desk = newDesk
		return x.word("ok", impl.ErrNone), true
	case "root":
		root, exponent, code := impl.RootOf(m)
		return x.puts(code, root, exponent), true
	case "chain":
		sign, list, code := impl.ChainOf(m)
		return x.puts(code, sign, list), true
	case "cycles":
		action, code := impl.ActionOfLevel(n)
		if code != impl.ErrNone {
			return x.puts(code), true
		}
		return x.lists(impl.CyclesOf(action)), true
	}
	if y, ok := ofMatrixAsTold(x, name, m); ok {
		return y, true
	}
	return ofLevelAsTold(x, name, n, f)
}

func ofMatrixAsTold(x toldLine, name string, m impl.Matrix) (toldLine, bool) {
	switch name {
	case "trace":
		return x.number(impl.TraceOf(m)), true
	case "kind":
		return x.number(impl.KindOf(m)), true
	case "order":
		return x.number(impl.OrderOf(m)), true
	case "letters":
		return x.word(impl.PositiveWord(m)), true
	case "runs":
		return x.list(impl.RunsOf(m)), true
	case "free":
		return x.word(impl.FreeWord(m)), true
	case "elliptic":
		return x.word(impl.EllipticName(m)), true
	case "shift":
		return x.number(impl.ParabolicShift(m)), true
	case "cyclic":
		return x.word(impl.CyclicWord(m)), true
	case "reciprocal":
		return x.answer(impl.IsReciprocal(m)), true
	case "mirrored":
		return x.answer(impl.IsMirrored(m)), true
	}
	return toldLine{}, false
}

func ofLevelAsTold(x toldLine, name string, n int64, f impl.Fraction) (toldLine, bool) {
	switch name {
	case "where":
		return x.number(impl.CosetOf(n, x.desk.Matrix)), true
	case "cusps":
		return x.lists(impl.CuspsOf(n)), true
	case "cusp":
		return x.number(impl.CuspOfFraction(n, f)), true
	case "fixed":
		byS, byU, code := impl.CountKept(n)
		return x.puts(code, byS, byU), true
	case "genus":
		return x.number(impl.GenusOf(n)), true
	case "path":
		list, code := impl.ChainOfFraction(f)
		return x.puts(code, list), true
	case "mix":
		return x.list(impl.MixOfFraction(n, f)), true
	}
	return toldLine{}, false
}

// withTextAsTold does the lines that have a text behind the command.
func withTextAsTold(d impl.Desk, name, text string) (toldLine, bool) {
	x := toldLine{desk: d}
	other, code := impl.ParseMatrix(text)
	switch name {
	case "matrix":
		return x.matrix(other, code), true
	case "name":
		return x.matrix(impl.NamedMatrix(text)), true
	case "word":
		return x.matrix(impl.MatrixOfWord(text)), true
	case "times":
		if code == impl.ErrNone {
			other, code = impl.ProductOf(d.Matrix, other)
		}
		return x.matrix(other, code), true
	case "by":
		if code == impl.ErrNone {
			other, code = impl.ConjugateBy(d.Matrix, other)
		}
		return x.matrix(other, code), true
	case "fraction":
		return x.fraction(impl.ParseFraction(text)), true
	}
	return toldLine{}, false
}

// withNumberAsTold does the lines that have a number behind the command.
func withNumberAsTold(d impl.Desk, name string, k int64) (toldLine, bool) {
	x := toldLine{desk: d}
	m, n := d.Matrix, d.Level
	switch name {
	case "power":
		return x.matrix(impl.PowerOf(m, k)), true
	case "coset":
		return x.matrix(impl.CosetMatrix(n, k)), true
	case "level":
		x.desk.Level = k
		return x.number(k, impl.ErrNone), 1 <= k && k <= 60
	case "classes":
		list, code := impl.ClassesOfTrace(k)
		return x.puts(code, list), true
	case "index":
		return x.number(impl.IndexOf(k, n)), true
	case "member":
		return x.answer(impl.IsMember(k, n, m)), true
	case "dimension":
		return x.number(impl.DimensionOf(n, k)), true
	case "goes":
		action, code := impl.ActionOfLevel(n)
		if code != impl.ErrNone {
			return x.puts(code), true
		}
		return x.number(impl.LeadByMatrix(action, m, k)), true
	case "subgroups":
		return x.number(impl.CountSubgroups(k)), true
	}
	return toldLine{}, false
}

// lineAsTold does what the list of the document tells.
func lineAsTold(d impl.Desk, line string) (impl.Desk, string) {
	shape := shapeOfLine.FindStringSubmatch(line)
	if shape == nil {
		return d, "error"
	}
	var x toldLine
	ok := false
	if shape[2] == "" {
		x, ok = aloneAsTold(d, shape[1])
	} else {
		x, ok = withTextAsTold(d, shape[1], shape[2][1:])
		if shapeOfNumber.MatchString(shape[2]) && !ok {
			k, _ := strconv.ParseInt(shape[2][1:], 10, 64)
			x, ok = withNumberAsTold(d, shape[1], k)
		}
	}
	if !ok || x.code != impl.ErrNone {
		return d, "error"
	}
	output := printedAll(x.results)
	if output == "" {
		output = "none"
	}
	return x.desk, output
}

// someTexts are words behind commands, with some that are neither texts nor numbers.
func someTexts() []string {
	return []string{
		"", "S", "T", "L", "U", "I", "V", "s", "SS", "STtLl", "TTTTT", "lll", strings.Repeat("T", 200), strings.Repeat("t", 201), strings.Repeat("TL", 25),
		"1,0,0,1", "-1,0,0,-1", "0,-1,1,0", "1,-1,1,0", "0,-1,1,-1", "2,1,1,1", "-2,-1,-1,-1", "1,1,0,1", "1,0,-5,1", "5,3,3,2", "1,1000000000,0,1", "1,0,1000000000,1",
		"1,0,0", "1,0,0,1,", "1,0,0,0", "1,0,0,+1", "01,0,0,1", "1,1000000001,0,1",
		"1/0", "0/1", "-3/2", "2/5", "1000000000/999999999", "-1000000000/1", "1/1000000000", "2/4", "1/-2", "-1/0", "0/0", "3", "/",
		"0", "1", "2", "3", "4", "5", "6", "7", "11", "12", "13", "20", "42", "59", "60", "61", "72", "101", "10007", "1000000", "1000001", "999999999", "1000000000",
		"-1", "-0", "+1", "00", "02", "1.0",
	}
}

// allLines has each command alone and with each of someTexts.
func allLines() []string {
	var list []string
	for _, name := range slices.Concat(wordsAlone(), wordsWithText(), wordsWithNumber(), []string{"", "fly", "error", "none"}) {
		list = append(list, name)
		for _, text := range someTexts() {
			list = append(list, name+" "+text)
		}
	}
	return list
}

// someDesks has matrices of each kind, with numbers up to the limit, fractions up to it, and levels with
// lines of few and of many pairs.
func someDesks(t *testing.T) []impl.Desk {
	t.Helper()
	matrices := append(someMatrices(t, 1),
		cat, opposite(cat), impl.Matrix{5, 3, 3, 2}, impl.Matrix{13, 8, 8, 5}, impl.Matrix{-13, 8, 8, -5}, impl.Matrix{1, 2, 1, 3}, impl.Matrix{1, 12, 0, 1}, impl.Matrix{-1, 0, 7, -1},
		impl.Matrix{1, 0, 60, 1}, impl.Matrix{433494437, 267914296, 267914296, 165580141}, impl.Matrix{1, 99, 1, 100}, impl.Matrix{1, 300, 1, 301})
	fractions := someFractions()
	levels := []int64{1, 2, 3, 4, 5, 6, 7, 9, 11, 12, 13, 25, 30, 36, 41, 42, 47, 48, 59, 60}
	var list []impl.Desk
	for i, m := range matrices {
		list = append(list, deskOf(m, fractions[i*7%len(fractions)], levels[i%len(levels)]))
	}
	for i, f := range fractions {
		list = append(list, deskOf(matrices[i*11%len(matrices)], f, levels[i*3%len(levels)]))
	}
	return append(list, newDesk, deskOf(one, zero, 1), deskOf(opposite(one), zero, 60))
}

func badDesks() []impl.Desk {
	list := []impl.Desk{{}, {Matrix: cat, Fraction: infinity}, {Matrix: cat, Level: 2}, {Fraction: infinity, Level: 2}}
	for _, m := range badMatrices() {
		list = append(list, withMatrix(m))
	}
	for _, f := range badFractions() {
		list = append(list, withFraction(f))
	}
	for _, n := range append(beyond(), 0, -1, -2, -60, 61, 62, 1000) {
		list = append(list, withLevel(n))
	}
	return list
}

// wantRun runs the line twice, since nothing is kept between calls.
func wantRun(t *testing.T, d impl.Desk, line string, wantDesk impl.Desk, want string) {
	t.Helper()
	for range 2 {
		after, output := impl.RunLine(d, line)
		if after != wantDesk || output != want {
			t.Errorf("RunLine(%v, %q) = %v, %q, not %v, %q", d, line, after, output, wantDesk, want)
		}
	}
}

func wantWrong(t *testing.T, d impl.Desk, line string) {
	t.Helper()
	wantRun(t, d, line, d, "error")
}

func wantConsole(t *testing.T, text, want string, wantDesk impl.Desk) {
	t.Helper()
	for range 2 {
		if outputs := impl.Console(text); outputs != want {
			t.Errorf("Console(%q) = %q, not %q", text, outputs, want)
		}
		if d, ok := impl.DeskAfter(text); !ok || d != wantDesk {
			t.Errorf("DeskAfter(%q) = %v, %t, not %v", text, d, ok, wantDesk)
		}
	}
}

func wantNoConsole(t *testing.T, text string) {
	t.Helper()
	outputs := impl.Console(text)
	d, ok := impl.DeskAfter(text)
	if outputs != "" || ok || d != (impl.Desk{}) {
		t.Errorf("a text of %d bytes and %d newlines is taken, with %q, and %v, %t", len(text), strings.Count(text, "\n"), outputs, d, ok)
	}
}

// outputsAsTold runs the lines of a text within the limits one by one, byte by byte.
func outputsAsTold(text string) (string, impl.Desk) {
	d, outputs, line := newDesk, "", ""
	end := func() {
		if line != "" {
			after, output := impl.RunLine(d, line)
			d, outputs, line = after, outputs+output+"\n", ""
		}
	}
	for i := range len(text) {
		if text[i] == 10 {
			end()
		} else {
			line += text[i : i+1]
		}
	}
	end()
	return outputs, d
}

func TestLimitsOfTheConsole(t *testing.T) {
	if impl.MaxConsole != 4000 || impl.MaxLines != 40 {
		t.Errorf("the limits are %d and %d", impl.MaxConsole, impl.MaxLines)
	}
}

func TestNewDesk(t *testing.T) {
	want := impl.Desk{Matrix: impl.Matrix{2, 1, 1, 1}, Fraction: impl.Fraction{1, 0}, Level: 2}
	d := impl.NewDesk()
	d.Level = 7
	if d = impl.NewDesk(); d != want || !impl.IsDesk(d) {
		t.Errorf("NewDesk() = %v", d)
	}
}

func TestIsDesk(t *testing.T) {
	good := someDesks(t)
	for n := range int64(60) {
		good = append(good, withLevel(n+1))
	}
	for _, m := range someMatrices(t, 2) {
		good = append(good, withMatrix(m))
	}
	for _, f := range someFractions() {
		good = append(good, withFraction(f))
	}
	for _, d := range good {
		if !impl.IsDesk(d) {
			t.Errorf("%v is no desk", d)
		}
	}
	for _, d := range badDesks() {
		if impl.IsDesk(d) {
			t.Errorf("%v is a desk", d)
		}
	}
}

func TestLinesOnWhatIsNoDesk(t *testing.T) {
	for _, d := range badDesks() {
		for _, line := range []string{"", "reset", "show", "look", "see", "level 2", "matrix 1,0,0,1", "fraction 1/0", "subgroups 3", "classes 3", "fly"} {
			wantRun(t, d, line, impl.Desk{}, "")
		}
	}
}

func TestLinesThatChangeTheNewDesk(t *testing.T) {
	for _, c := range []struct {
		line   string
		want   impl.Matrix
		output string
	}{
		{"matrix 1,2,0,1", impl.Matrix{1, 2, 0, 1}, "1,2,0,1"}, {"matrix -1,0,0,-1", opposite(one), "-1,0,0,-1"}, {"matrix 1,-1000000000,0,1", powerOfT(least), "1,-1000000000,0,1"}, {"matrix 2,1,1,1", cat, "2,1,1,1"},
		{"name S", s, "0,-1,1,0"}, {"name T", powerOfT(1), "1,1,0,1"}, {"name L", impl.Matrix{1, 0, 1, 1}, "1,0,1,1"}, {"name U", u, "1,-1,1,0"}, {"name I", one, "1,0,0,1"},
		{"word ", one, "1,0,0,1"}, {"word TL", cat, "2,1,1,1"}, {"word SS", opposite(one), "-1,0,0,-1"}, {"word STtLl", s, "0,-1,1,0"}, {"word ttt", powerOfT(-3), "1,-3,0,1"}, {"word " + strings.Repeat("T", 200), powerOfT(200), "1,200,0,1"},
		{"times 1,1,0,1", impl.Matrix{2, 3, 1, 2}, "2,3,1,2"}, {"times 0,-1,1,0", impl.Matrix{1, -2, 1, -1}, "1,-2,1,-1"}, {"times 2,1,1,1", impl.Matrix{5, 3, 3, 2}, "5,3,3,2"},
		{"by 1,1,0,1", impl.Matrix{3, -1, 1, 0}, "3,-1,1,0"}, {"by 1,0,1,1", impl.Matrix{1, 1, 1, 2}, "1,1,1,2"}, {"by -1,0,0,-1", cat, "2,1,1,1"},
		{"inverse", impl.Matrix{1, -1, -1, 2}, "1,-1,-1,2"},
		{"power 0", one, "1,0,0,1"}, {"power 1", cat, "2,1,1,1"}, {"power 3", impl.Matrix{13, 8, 8, 5}, "13,8,8,5"}, {"power 21", impl.Matrix{433494437, 267914296, 267914296, 165580141}, "433494437,267914296,267914296,165580141"},
		{"coset 0", one, "1,0,0,1"}, {"coset 1", s, "0,-1,1,0"}, {"coset 2", impl.Matrix{0, -1, 1, 1}, "0,-1,1,1"},
	} {
		wantRun(t, newDesk, c.line, withMatrix(c.want), c.output)
	}
	for _, c := range []struct {
		line   string
		want   impl.Fraction
		output string
	}{
		{"fraction -3/2", impl.Fraction{-3, 2}, "-3/2"}, {"fraction 0/1", zero, "0/1"}, {"fraction 1/0", infinity, "1/0"}, {"fraction 1000000000/999999999", impl.Fraction{most, most - 1}, "1000000000/999999999"},
		{"lead", impl.Fraction{2, 1}, "2/1"},
	} {
		wantRun(t, newDesk, c.line, withFraction(c.want), c.output)
	}
	for n := int64(1); n <= 60; n++ {
		wantRun(t, newDesk, fmt.Sprint("level ", n), withLevel(n), fmt.Sprint(n))
	}
	wantRun(t, newDesk, "reset", newDesk, "ok")
}

func TestLinesThatAskTheNewDesk(t *testing.T) {
	for line, want := range map[string]string{
		"show": "2,1,1,1", "look": "1/0", "see": "2", "trace": "3", "kind": "3", "chain": "1 2 1", "letters": "TL", "runs": "1 1", "free": "USVS",
		"cyclic": "LT", "root": "2,1,1,1 1", "reciprocal": "yes", "mirrored": "yes",
		"classes 3": "1,1,1,2", "classes 4": "1,1,2,3 1,2,1,3",
		"index 0": "3", "index 1": "3", "index 2": "6", "member 0": "no", "member 1": "no", "member 2": "no", "where": "2",
		"cusps": "0;1 2", "cusp": "0", "fixed": "1 0", "genus": "0", "path": "1/0", "mix": "0 0 0", "dimension 5": "1", "dimension 10007": "1",
		"cycles": "0;1 2", "goes 0": "2", "goes 1": "0", "goes 2": "1", "subgroups 1": "1", "subgroups 3": "4", "subgroups 12": "764",
	} {
		wantRun(t, newDesk, line, newDesk, want)
	}
	for _, line := range []string{"order", "elliptic", "shift", "kept"} {
		wantWrong(t, newDesk, line)
	}
}

func TestLinesThatChangeOtherDesks(t *testing.T) {
	d := deskOf(impl.Matrix{-3, -2, 5, 3}, impl.Fraction{-2, 3}, 11)
	for _, c := range []struct {
		line   string
		want   impl.Desk
		output string
	}{
		{"inverse", deskOf(impl.Matrix{3, 2, -5, -3}, d.Fraction, 11), "3,2,-5,-3"},
		{"times 1,1,0,1", deskOf(impl.Matrix{-3, -5, 5, 8}, d.Fraction, 11), "-3,-5,5,8"},
		{"by 1,1,0,1", deskOf(impl.Matrix{2, -1, 5, -2}, d.Fraction, 11), "2,-1,5,-2"},
		{"power 1000000", deskOf(one, d.Fraction, 11), "1,0,0,1"},
		{"coset 11", deskOf(impl.Matrix{0, -1, 1, 10}, d.Fraction, 11), "0,-1,1,10"},
		{"lead", deskOf(d.Matrix, zero, 11), "0/1"},
		{"level 60", deskOf(d.Matrix, d.Fraction, 60), "60"},
		{"name I", deskOf(one, d.Fraction, 11), "1,0,0,1"},
		{"fraction 2/5", deskOf(d.Matrix, impl.Fraction{2, 5}, 11), "2/5"},
		{"reset", newDesk, "ok"},
	} {
		wantRun(t, d, c.line, c.want, c.output)
	}
	shifted := deskOf(impl.Matrix{-2, 1, -9, 4}, impl.Fraction{7, 2}, 4)
	wantRun(t, shifted, "kept", deskOf(shifted.Matrix, impl.Fraction{1, 3}, 4), "1/3")
	wantRun(t, deskOf(impl.Matrix{-1, 0, 5, -1}, zero, 1), "lead", deskOf(impl.Matrix{-1, 0, 5, -1}, zero, 1), "0/1")
	wantRun(t, deskOf(powerOfT(1), impl.Fraction{most - 1, 1}, 1), "lead", deskOf(powerOfT(1), impl.Fraction{most, 1}, 1), "1000000000/1")
}

func TestLinesThatAskOtherDesks(t *testing.T) {
	for _, c := range []struct {
		desk       impl.Desk
		line, want string
	}{
		{withMatrix(opposite(cat)), "show", "-2,-1,-1,-1"}, {withFraction(impl.Fraction{-7, 2}), "look", "-7/2"}, {withLevel(60), "see", "60"},
		{withMatrix(opposite(cat)), "trace", "-3"}, {withMatrix(one), "kind", "0"}, {withMatrix(opposite(u)), "kind", "1"}, {withMatrix(powerOfT(-2)), "kind", "2"},
		{withMatrix(one), "order", "1"}, {withMatrix(opposite(one)), "order", "2"}, {withMatrix(v), "order", "3"}, {withMatrix(s), "order", "4"}, {withMatrix(u), "order", "6"},
		{withMatrix(one), "chain", "1 0"}, {withMatrix(opposite(cat)), "chain", "-1 2 1"}, {withMatrix(powerOfT(-9)), "chain", "1 -9"},
		{withMatrix(one), "letters", "none"}, {withMatrix(one), "runs", "none"}, {withMatrix(one), "free", "none"}, {withMatrix(opposite(one)), "free", "none"},
		{withMatrix(impl.Matrix{1, 0, 3, 1}), "letters", "LLL"}, {withMatrix(impl.Matrix{1, 0, 3, 1}), "runs", "0 3"}, {withMatrix(powerOfT(most)), "runs", "1000000000"}, {withMatrix(s), "free", "S"},
		{withMatrix(opposite(s)), "elliptic", "-S"}, {withMatrix(s), "elliptic", "S"}, {withMatrix(u), "elliptic", "U"}, {withMatrix(opposite(u)), "elliptic", "-U"}, {withMatrix(v), "elliptic", "V"}, {withMatrix(opposite(v)), "elliptic", "-V"},
		{withMatrix(impl.Matrix{1, 0, 1, 1}), "shift", "-1"}, {withMatrix(powerOfT(most)), "shift", "1000000000"},
		{withMatrix(impl.Matrix{13, 8, 8, 5}), "cyclic", "LTLTLT"}, {withMatrix(impl.Matrix{-13, -8, -8, -5}), "root", "2,1,1,1 3"},
		{withMatrix(impl.Matrix{1, 2, 1, 3}), "reciprocal", "no"}, {withMatrix(impl.Matrix{1, 2, 1, 3}), "mirrored", "no"},
		{withLevel(11), "index 0", "12"}, {withLevel(11), "index 2", "1320"}, {withLevel(1), "member 0", "yes"}, {deskOf(impl.Matrix{1, 1, 6, 7}, zero, 6), "member 1", "yes"}, {deskOf(impl.Matrix{1, 1, 6, 7}, zero, 6), "member 2", "no"},
		{deskOf(one, zero, 11), "where", "0"}, {withLevel(11), "where", "2"},
		{withLevel(1), "cusps", "0"}, {withLevel(6), "cusps", "0;1 2 3 4 5 6;7 8 9;10 11"}, {withLevel(1), "cycles", "0"}, {withLevel(6), "fixed", "0 0"}, {withLevel(13), "fixed", "2 2"},
		{deskOf(cat, zero, 2), "cusp", "1"}, {withLevel(11), "genus", "1"}, {withLevel(11), "dimension 101", "3"}, {withLevel(47), "genus", "4"},
		{withFraction(impl.Fraction{2, 5}), "path", "1/0 0/1 1/2 2/5"}, {withFraction(impl.Fraction{-2, 5}), "path", "1/0 -1/1 0/1 -1/2 -2/5"}, {withFraction(impl.Fraction{2, 5}), "mix", "1 2 0"}, {deskOf(cat, zero, 1), "mix", "1"},
		{deskOf(one, zero, 11), "goes 11", "11"}, {deskOf(powerOfT(-1), zero, 2), "goes 1", "2"},
	} {
		wantRun(t, c.desk, c.line, c.desk, c.want)
	}
}

// TestLinesDoAsTold has each line of the list on desks of all sorts.
func TestLinesDoAsTold(t *testing.T) {
	met := map[string]bool{}
	for _, d := range someDesks(t) {
		for _, line := range allLines() {
			want, output := lineAsTold(d, line)
			after, got := impl.RunLine(d, line)
			if after != want || got != output {
				t.Errorf("RunLine(%v, %q) = %v, %q, not %v, %q", d, line, after, got, want, output)
			}
			name, _, _ := strings.Cut(line, " ")
			met[fmt.Sprint(name, " ", got == "error")] = true
		}
	}
	for _, name := range slices.Concat(wordsAlone(), wordsWithText(), wordsWithNumber()) {
		if !met[name+" false"] {
			t.Errorf("%q was wrong everywhere", name)
		}
	}
	for _, name := range slices.Concat(wordsWithText(), wordsWithNumber(), strings.Fields("lead kept order letters runs free elliptic shift cyclic root reciprocal mirrored mix cycles")) {
		if !met[name+" true"] {
			t.Errorf("%q was right everywhere", name)
		}
	}
}

// TestLinesThatFunctionsRefuse has, for each code, lines whose function returns it.
func TestLinesThatFunctionsRefuse(t *testing.T) {
	long := withLevel(42)
	for _, c := range []struct {
		desk  impl.Desk
		lines []string
	}{
		{newDesk, []string{"matrix ", "matrix 1,0,0", "matrix 1,0,0,0", "matrix 01,0,0,1", "matrix 1,1000000001,0,1", "matrix S", "name ", "name V", "name s", "name ST", "name 1,0,0,1"}},
		{newDesk, []string{"word V", "word TA", "word " + strings.Repeat("T", 201), "word " + strings.Repeat("TL", 23), "times ", "times S", "times 1,0,0,0", "by ", "by T", "by 2,0,0,2"}},
		{withMatrix(powerOfT(most)), []string{"times 1,1,0,1", "by 1,0,1,1", "power 2", "power 1000000", "power 1000001", "power 999999999", "cyclic", "root", "reciprocal", "mirrored", "elliptic", "order", "letters", "free"}},
		{newDesk, []string{"power 22", "power 1000001", "coset 3", "coset 999999999", "fraction ", "fraction 2/4", "fraction -1/0", "fraction 0/0", "fraction 1/1000000001", "fraction 1", "kept", "order", "elliptic", "shift"}},
		{deskOf(powerOfT(1), impl.Fraction{most, 1}, 2), []string{"lead"}},
		{withMatrix(one), []string{"kept", "elliptic", "shift", "cyclic", "root", "reciprocal", "mirrored"}},
		{withMatrix(opposite(one)), []string{"kept", "letters", "runs"}},
		{withMatrix(s), []string{"kept", "letters", "runs", "shift", "cyclic", "root", "reciprocal", "mirrored"}},
		{withMatrix(impl.Matrix{1, 201, 0, 1}), []string{"letters", "free"}},
		{withMatrix(impl.Matrix{1, 300, 1, 301}), []string{"letters", "free", "cyclic", "reciprocal", "mirrored"}},
		{newDesk, []string{"level 0", "level 61", "level 100", "level 999999999", "classes 0", "classes 1", "classes 2", "classes 61", "index 3", "member 3", "goes 3", "subgroups 0", "subgroups 13"}},
		{newDesk, []string{"dimension 0", "dimension 2", "dimension 3", "dimension 13", "dimension 10009", "dimension 999999999"}},
		{long, []string{"mix", "dimension 5", "dimension 101", "dimension 4", "cycles", "goes 0", "goes 95", "goes 96", "coset 96"}},
	} {
		for _, line := range c.lines {
			wantWrong(t, c.desk, line)
		}
	}
	wantRun(t, long, "coset 95", deskOf(impl.Matrix{11, 1, 21, 2}, infinity, 42), "11,1,21,2")
	wantRun(t, withMatrix(impl.Matrix{1, 300, 1, 301}), "root", withMatrix(impl.Matrix{1, 300, 1, 301}), "1,300,1,301 1")
	wantRun(t, withMatrix(impl.Matrix{1, 300, 1, 301}), "runs", withMatrix(impl.Matrix{1, 300, 1, 301}), "0 1 300")
}

func TestNumbersOfLines(t *testing.T) {
	d := deskOf(one, infinity, 11)
	bad := []string{
		"", "00", "01", "02", "03", "003", "000000003", "0000000003", "-1", "-0", "-3", "+0", "+1", "+3", "1.0", "3.", ".3", "3e0", "1e1", "0x3", "0b1", "0o3", "1_1", "_1", "3_", "1,1", "3,", "3/1",
		"x", "3x", "x3", "\t3", "3\t", "3\n", "\n3", "3\r", "3\x00", "\u00a03", "３", "٣", "³", "III", "1000000000", "9999999999", "2147483648", "4294967296", "4294967299", "18446744073709551616", "18446744073709551619", "9223372036854775808", "99999999999999999999",
		strings.Repeat("0", 3000) + "3", strings.Repeat("3", 3000),
	}
	for _, name := range wordsWithNumber() {
		for _, word := range bad {
			wantWrong(t, d, name+" "+word)
		}
		// No function takes a number of nine digits.
		for _, word := range []string{"100000000", "999999999"} {
			wantWrong(t, d, name+" "+word)
		}
	}
	// All commands take a 3 or a 1, and so the zeros and signs ahead of these are what is wrong.
	for _, line := range []string{"power 0", "power 1", "power 3", "power 1000000", "coset 0"} {
		wantRun(t, d, line, d, "1,0,0,1")
	}
	wantRun(t, d, "coset 3", deskOf(impl.Matrix{0, -1, 1, 2}, infinity, 11), "0,-1,1,2")
	wantRun(t, d, "level 3", deskOf(one, infinity, 3), "3")
	for line, want := range map[string]string{
		"classes 3": "1,1,1,2", "index 0": "12", "index 1": "120", "member 0": "yes", "member 1": "yes", "dimension 5": "3", "dimension 10007": "3", "goes 0": "0", "goes 3": "3", "subgroups 3": "4",
	} {
		wantRun(t, d, line, d, want)
	}
}

// TestWordsOfLines has lines of the list with a word too few or too many, or with other bytes.
func TestWordsOfLines(t *testing.T) {
	right := wordsAlone()
	for _, name := range wordsWithText() {
		text := map[string]string{"name": "S", "word": "TL", "fraction": "2/5"}[name]
		if text == "" {
			text = "1,0,0,1"
		}
		right = append(right, name+" "+text)
		wantWrong(t, newDesk, name)
	}
	for _, name := range wordsWithNumber() {
		word := "1"
		if name == "dimension" || name == "classes" {
			word = "5"
		}
		right = append(right, name+" "+word)
		wantWrong(t, newDesk, name)
	}
	// On these desks each line of the list is right on one or the other.
	desks := []impl.Desk{newDesk, withMatrix(s), withMatrix(powerOfT(2))}
	for _, line := range right {
		taken := 0
		for _, d := range desks {
			if _, output := impl.RunLine(d, line); output != "error" {
				taken++
			}
			for _, ahead := range []string{" ", "  ", "\t", "\n", "\r", "\x00", "\u00a0", "x", "x "} {
				wantWrong(t, d, ahead+line)
			}
			for _, behind := range []string{" ", "  ", " x", " 1", " x y", "\t", "\n", "\r", "\v", "\x00", "\xff", "\u00a0", "\u3000", "\nshow", ";", "."} {
				wantWrong(t, d, line+behind)
			}
			name, word, _ := strings.Cut(line, " ")
			for _, other := range []string{strings.ToUpper(name), strings.ToUpper(name[:1]) + name[1:], name + name, name[:len(name)-1] + "_", name[:1]} {
				wantWrong(t, d, strings.TrimSuffix(other+" "+word, " "))
			}
			for _, blank := range []string{"", "  ", "\t", " \t", "\n", "\u00a0", "\u2003", ",", "=", "_"} {
				if word != "" {
					wantWrong(t, d, name+blank+word)
				}
			}
		}
		if taken == 0 {
			t.Errorf("%q is wrong on all of %v", line, desks)
		}
	}
	for _, line := range []string{"", " ", "  ", "   ", "\t", "\n", "fly", "fly ", "error", "none", "ok", "quit", "word  ", "word  T", "word T ", "word T T", "name  S", "matrix  1,0,0,1", "matrix 1 0 0 1", "power  2", "power 2 "} {
		for _, d := range desks {
			wantWrong(t, d, line)
		}
	}
	// TEXT may be empty, and a word of no letter has a matrix.
	wantRun(t, withMatrix(s), "word ", withMatrix(one), "1,0,0,1")
}

func TestConsoleJoinsOutputs(t *testing.T) {
	for _, c := range []struct {
		text, want string
		desk       impl.Desk
	}{
		{"", "", newDesk},
		{"\n", "", newDesk},
		{"\n\n\n", "", newDesk},
		{"show", "2,1,1,1\n", newDesk},
		{"show\n", "2,1,1,1\n", newDesk},
		{"\nshow", "2,1,1,1\n", newDesk},
		{"\n\nshow\n\n\nsee\n\n", "2,1,1,1\n2\n", newDesk},
		{"power 2\npower 2", "5,3,3,2\n34,21,21,13\n", withMatrix(impl.Matrix{34, 21, 21, 13})},
		{"lead\nlead\nlook\n", "2/1\n5/3\n5/3\n", withFraction(impl.Fraction{5, 3})},
		{"level 11\nfly\ngenus\ndimension 101\nlevel 0\nsee", "11\nerror\n1\n3\nerror\n11\n", withLevel(11)},
		{"fraction 2/5\nlevel 6\nname S\nlead\ncusp\nreset\nshow\nlook\nsee\n", "2/5\n6\n0,-1,1,0\n-5/2\n2\nok\n2,1,1,1\n1/0\n2\n", newDesk},
		{"name I\nletters\nruns\nfree\nchain\n", "1,0,0,1\nnone\nnone\nnone\n1 0\n", withMatrix(one)},
		{"matrix 1,2,0,1\ncoset 1\nmatrix 1,2,0,2\n", "1,2,0,1\n0,-1,1,0\nerror\n", withMatrix(s)},
		{"word LTTLLT\nreciprocal\nmirrored\nword LTTLLLTLLTTT\nreciprocal\nmirrored\nname L", "5,7,7,10\nyes\nno\n25,84,36,121\nno\nyes\n1,0,1,1\n", withMatrix(impl.Matrix{1, 0, 1, 1})},
		{"word \nshow", "1,0,0,1\n1,0,0,1\n", withMatrix(one)},
		{" \n \n", "error\nerror\n", newDesk},
		{" show\nshow \nshow\r\nsee\n", "error\nerror\nerror\n2\n", newDesk},
		{"show\rsee", "error\n", newDesk},
		{"show\x00\n\xff\xfe\nsee", "error\nerror\n2\n", newDesk},
		{"show\u2028see\u0085see\vsee\fsee", "error\n", newDesk},
	} {
		wantConsole(t, c.text, c.want, c.desk)
		outputs, d := outputsAsTold(c.text)
		if outputs != c.want || d != c.desk {
			t.Errorf("the lines of %q have the outputs %q, and the desk %v", c.text, outputs, d)
		}
	}
}

func TestConsoleAtItsLimits(t *testing.T) {
	wantConsole(t, strings.Repeat("see\n", 40), strings.Repeat("2\n", 40), newDesk)
	wantConsole(t, strings.Repeat("see\n", 39)+"see", strings.Repeat("2\n", 40), newDesk)
	wantConsole(t, strings.Repeat("\n", 39)+"see", "2\n", newDesk)
	wantConsole(t, strings.Repeat("\n", 39)+"see\n", "2\n", newDesk)
	wantConsole(t, "level 3\n"+strings.Repeat("\n", 39), "3\n", withLevel(3))
	wantConsole(t, strings.Repeat("\n", 40), "", newDesk)
	wantConsole(t, strings.Repeat("x", 4000), "error\n", newDesk)
	wantConsole(t, "level 3\n"+strings.Repeat("x", 3992), "3\nerror\n", withLevel(3))
	wantConsole(t, "level 3\n"+strings.Repeat("x", 3991)+"\n", "3\nerror\n", withLevel(3))
	wantConsole(t, strings.Repeat("é", 2000), "error\n", newDesk)
	wantConsole(t, strings.Repeat(strings.Repeat(" ", 99)+"\n", 40), strings.Repeat("error\n", 40), newDesk)
	for _, text := range []string{
		strings.Repeat("see\n", 41), strings.Repeat("see\n", 40) + "see", strings.Repeat("\n", 40) + "see", strings.Repeat("see\n", 40) + "\n", strings.Repeat("\n", 41), strings.Repeat("\n", 40) + " ", strings.Repeat("\n", 4000),
		strings.Repeat("x", 4001), strings.Repeat("x", 4000) + "\n", "\n" + strings.Repeat("x", 4000), "level 3\n" + strings.Repeat("x", 3993), "level 3\n" + strings.Repeat("x", 3992) + "\n", strings.Repeat("é", 2000) + "x", strings.Repeat("é", 2001),
		strings.Repeat("see\n", 1000), strings.Repeat("\n", 4001), strings.Repeat("x", 100000), strings.Repeat("see\n", 100000),
	} {
		wantNoConsole(t, text)
	}
}

// randomLine is often one of the list, and is then often right.
func randomLine(random *rand.Rand) string {
	texts := someTexts()
	switch random.Intn(8) {
	case 0, 1, 2:
		return wordsAlone()[random.Intn(len(wordsAlone()))]
	case 3, 4:
		return wordsWithText()[random.Intn(6)] + " " + texts[random.Intn(len(texts))]
	case 5, 6:
		return wordsWithNumber()[random.Intn(9)] + " " + fmt.Sprint(random.Intn(1+random.Intn(70)))
	}
	bytes := make([]byte, random.Intn(6))
	for i := range bytes {
		bytes[i] = "sehow kt2/\x00\t\xff"[random.Intn(13)]
	}
	return string(bytes)
}

// Promise 11, for lines: each one leads from a desk to a desk, and changes nothing with the output error.
func TestLinesLeadFromDesksToDesks(t *testing.T) {
	random := rand.New(rand.NewSource(11))
	wrong, changes := 0, 0
	for _, d := range someDesks(t) {
		for range 60 {
			line := randomLine(random)
			after, output := impl.RunLine(d, line)
			if !isDeskAsTold(after) || !impl.IsDesk(after) || output == "" || strings.ContainsAny(output, "\n") {
				t.Fatalf("%q leads from %v to %v, with the output %q", line, d, after, output)
			}
			if want, wanted := lineAsTold(d, line); after != want || output != wanted {
				t.Errorf("RunLine(%v, %q) = %v, %q, not %v, %q", d, line, after, output, want, wanted)
			}
			if output == "error" {
				wrong++
				if after != d {
					t.Errorf("%q is wrong on %v, and leads to %v", line, d, after)
				}
			}
			if after != d {
				changes++
			}
			d = after
		}
	}
	if wrong < 300 || changes < 300 {
		t.Errorf("%d lines were wrong, and %d changed the desk", wrong, changes)
	}
}

// Promise 11, for texts: the console joins the outputs of its lines, and ends at their last desk.
func TestConsoleDoesItsLines(t *testing.T) {
	random := rand.New(rand.NewSource(12))
	for range 150 {
		lines := make([]string, random.Intn(41))
		for i := range lines {
			if random.Intn(6) > 0 {
				lines[i] = randomLine(random)
			}
		}
		text := strings.Join(lines, "\n")
		if random.Intn(2) == 0 && len(lines) > 0 {
			text += "\n"
		}
		if len(text) > 4000 {
			continue
		}
		outputs, d := outputsAsTold(text)
		wantConsole(t, text, outputs, d)
		if !impl.IsDesk(d) {
			t.Errorf("the last desk of %q is %v", text, d)
		}
	}
}

// TestConsolesKeepNothing runs texts beside each other: none of them knows of the desk of another one.
func TestConsolesKeepNothing(t *testing.T) {
	var group sync.WaitGroup
	for i := range 8 {
		group.Go(func() {
			n := int64(i + 3)
			text := fmt.Sprintf("level %d\npower %d\nlead\nfly\nsee", n, i+1)
			for range 20 {
				power, _ := impl.PowerOf(cat, int64(i+1))
				led, _ := impl.LeadFraction(power, infinity)
				want := fmt.Sprintf("%d\n%s\n%s\nerror\n%d\n", n, printed(power), printed(led), n)
				wantConsole(t, text, want, deskOf(power, led, n))
				impl.RunLine(impl.NewDesk(), "level 60")
				wantConsole(t, "show\nlook\nsee", "2,1,1,1\n1/0\n2\n", newDesk)
			}
		})
	}
	group.Wait()
}
