package tests

import (
	"math"
	"reflect"
	"slices"
	"strconv"
	"strings"
	"sync"
	"testing"

	"loop.example/constanttime/impl"
)

// hasRead reports whether an expression reads an array.
func hasRead(e impl.Expr) bool {
	return e.Kind == impl.ExprRead || slices.ContainsFunc(e.Kids, hasRead)
}

// plainFold is FoldExpr for a valid expression, by the document's text.
func plainFold(e impl.Expr) impl.Expr {
	if len(e.Kids) == 0 {
		return e
	}
	folded := impl.Expr{Kind: e.Kind, Value: e.Value}
	for _, kid := range e.Kids {
		folded.Kids = append(folded.Kids, plainFold(kid))
	}
	first, last := folded.Kids[0], folded.Kids[len(folded.Kids)-1]
	is := func(e impl.Expr, kinds string, n int) bool {
		return strings.ContainsRune(kinds, rune("...r+-*&^=<?"[folded.Kind])) && equalExprs(e, constant(n))
	}
	switch {
	case folded.Kind == impl.ExprRead:
		return folded
	case folded.Kind == impl.ExprSelect:
		if first.Kind != impl.ExprConst || hasRead(folded.Kids[1]) || hasRead(last) {
			return folded
		}
		if first.Value == 0 {
			return last
		}
		return folded.Kids[1]
	case first.Kind == impl.ExprConst && last.Kind == impl.ExprConst:
		return constant(int(plainOperation(folded.Kind, byte(first.Value), byte(last.Value))))
	case is(first, "+^", 0) || is(first, "*", 1):
		return last
	case is(last, "+^-", 0) || is(last, "*", 1):
		return first
	}
	return folded
}

// plainlyFolded is what FoldProgram makes of the statements of a valid program, by the document's text.
func plainlyFolded(list []impl.Stmt) []impl.Stmt {
	var result []impl.Stmt
	for _, s := range list {
		if s.Kind != impl.StmtRepeat {
			s.Value = plainFold(s.Value)
		}
		s.Body, s.Else = plainlyFolded(s.Body), plainlyFolded(s.Else)
		switch {
		case s.Kind == impl.StmtIf && equalExprs(s.Value, constant(0)):
			result = append(result, s.Else...)
		case s.Kind == impl.StmtIf && s.Value.Kind == impl.ExprConst, s.Count == 1:
			result = append(result, s.Body...)
		case s.Kind == impl.StmtRepeat && len(s.Body) == 0:
		default:
			result = append(result, s)
		}
	}
	return result
}

// checkFoldedExpr checks what FoldExpr returns for an expression, and that this has the same value and the same reads.
func checkFoldedExpr(t *testing.T, p impl.Program, e impl.Expr, want impl.Expr) {
	t.Helper()
	text := impl.FormatExpr(p, e)
	got, ok := impl.FoldExpr(p, e)
	if !ok || !equalExprs(got, want) || !impl.ExprValid(p, got) {
		t.Errorf("FoldExpr of %s = %s, %v, want %s", text, impl.FormatExpr(p, got), ok, impl.FormatExpr(p, want))
	}
	if plain := plainFold(e); !equalExprs(plain, want) {
		t.Errorf("the plain form of %s is %s, want %s", text, impl.FormatExpr(p, plain), impl.FormatExpr(p, want))
	}
	if again, ok := impl.FoldExpr(p, got); !ok || !equalExprs(again, got) {
		t.Errorf("FoldExpr of %s = %s, %v, though it is a result of FoldExpr", impl.FormatExpr(p, got), impl.FormatExpr(p, again), ok)
	}
	p.Body = nil
	numbers := source(len(text))
	for range 3 {
		m := numbers.someMemory(p)
		value, events, _ := impl.EvalExpr(p, m, e)
		other, others, ok := impl.EvalExpr(p, m, got)
		if !ok || value != other || plainTrace(events) != plainTrace(others) {
			t.Errorf("%s has the value %d and the trace %s with %s, and %s has %d and %s", text, value, plainTrace(events), memoryText(m), impl.FormatExpr(p, got), other, plainTrace(others))
		}
	}
}

// checkFold checks FoldExpr with texts, for an expression of a program with three variables and two arrays.
func checkFold(t *testing.T, text string, want string) {
	t.Helper()
	p := parsed(t, "LHU/HX/a:="+text+";a:="+want+";")
	checkFoldedExpr(t, p, p.Body[0].Value, p.Body[1].Value)
}

// checkNotFolded checks that FoldExpr does not accept an expression.
func checkNotFolded(t *testing.T, what string, p impl.Program, e impl.Expr) {
	t.Helper()
	if got, ok := impl.FoldExpr(p, e); ok || !equalExprs(got, impl.Expr{}) {
		t.Errorf("%s: FoldExpr = %v, %v", what, got, ok)
	}
}

func TestFoldedSelections(t *testing.T) {
	for text, want := range map[string]string{
		"(0?a:b)": "b", "(1?a:b)": "a", "(2?a:b)": "a", "(128?a:b)": "a", "(255?a:b)": "a", "(0?2:3)": "3", "(1?2:3)": "2", "(1?0:1)": "0", "(0?0:1)": "1", "(7?(a-b):c)": "(a-b)", "(0?c:(a=b))": "(a=b)",
		"(0?(a+b):(b*c))": "(b*c)", "(3?(a?b:c):(c?b:a))": "(a?b:c)", "(0?(a?b:c):(c?b:a))": "(c?b:a)", "(0?a:a)": "a",
		// A read in the operand that is chosen, in the other one, and in both.
		"(0?P[0]:a)": "(0?P[0]:a)", "(1?P[0]:a)": "(1?P[0]:a)", "(9?P[0]:a)": "(9?P[0]:a)", "(0?a:Q[b])": "(0?a:Q[b])", "(1?a:Q[b])": "(1?a:Q[b])", "(9?a:Q[b])": "(9?a:Q[b])",
		"(0?P[a]:Q[b])": "(0?P[a]:Q[b])", "(1?P[a]:P[a])": "(1?P[a]:P[a])", "(9?Q[0]:P[0])": "(9?Q[0]:P[0])",
		// A read within an operand.
		"(0?(a+P[1]):b)": "(0?(a+P[1]):b)", "(1?b:(Q[a]-1))": "(1?b:(Q[a]-1))", "(1?(a?b:(c*P[3])):0)": "(1?(a?b:(c*P[3])):0)", "(0?(Q[0]?1:2):0)": "(0?(Q[0]?1:2):0)", "(1?0:(a+(b+Q[0])))": "(1?0:(a+(b+Q[0])))",
		// Conditions that are no constants, whatever their values and those of the others are.
		"(a?b:c)": "(a?b:c)", "(a?1:1)": "(a?1:1)", "(a?1:0)": "(a?1:0)", "((a-a)?b:c)": "((a-a)?b:c)", "(P[0]?1:2)": "(P[0]?1:2)", "((a=1)?b:b)": "((a=1)?b:b)", "((a*0)?b:c)": "((a*0)?b:c)",
	} {
		checkFold(t, text, want)
	}
	for n := 1; n < 256; n++ {
		condition := strconv.Itoa(n)
		checkFold(t, "("+condition+"?b:c)", "b")
		checkFold(t, "("+condition+"?b:P[c])", "("+condition+"?b:P[c])")
	}
}

func TestFoldedConstants(t *testing.T) {
	for text, want := range map[string]string{
		"(3+4)": "7", "(200+100)": "44", "(255+1)": "0", "(1+255)": "0", "(255+255)": "254", "(128+128)": "0", "(0+0)": "0",
		"(7-4)": "3", "(4-7)": "253", "(0-1)": "255", "(0-255)": "1", "(255-0)": "255", "(0-0)": "0", "(128-129)": "255",
		"(3*4)": "12", "(16*16)": "0", "(255*255)": "1", "(2*200)": "144", "(200*2)": "144", "(0*255)": "0", "(255*0)": "0", "(1*1)": "1",
		"(12&10)": "8", "(255&0)": "0", "(0&255)": "0", "(255&170)": "170", "(12^10)": "6", "(255^255)": "0", "(255^1)": "254", "(0^0)": "0",
		"(3=3)": "1", "(3=4)": "0", "(0=0)": "1", "(0=255)": "0", "(255=0)": "0", "(3<4)": "1", "(4<3)": "0", "(4<4)": "0", "(0<255)": "1", "(255<0)": "0", "(255<255)": "0",
		// What the rules behind this one would make of these is the same.
		"(0+5)": "5", "(5+0)": "5", "(0^5)": "5", "(5^0)": "5", "(1*5)": "5", "(5*1)": "5", "(5-0)": "5", "(1*0)": "0", "(0*1)": "0",
	} {
		checkFold(t, text, want)
	}
	edges := []int{0, 1, 2, 3, 15, 16, 127, 128, 129, 200, 254, 255}
	for i, operator := range "+-*&^=<" {
		for _, a := range edges {
			for _, b := range edges {
				want := int(plainOperation(impl.ExprAdd+i, byte(a), byte(b)))
				checkFold(t, "("+strconv.Itoa(a)+string(operator)+strconv.Itoa(b)+")", strconv.Itoa(want))
			}
		}
	}
}

func TestFoldedNeutralOperands(t *testing.T) {
	for text, want := range map[string]string{
		"(0+a)": "a", "(0^a)": "a", "(1*a)": "a", "(a+0)": "a", "(a^0)": "a", "(a-0)": "a", "(a*1)": "a",
		"(0+P[a])": "P[a]", "(0^Q[1])": "Q[1]", "(1*P[b])": "P[b]", "(P[a]+0)": "P[a]", "(Q[1]^0)": "Q[1]", "(P[0]-0)": "P[0]", "(P[b]*1)": "P[b]",
		"(0+(a*b))": "(a*b)", "(0^(a?b:c))": "(a?b:c)", "(1*(a<b))": "(a<b)", "((a=b)+0)": "(a=b)", "((a-b)^0)": "(a-b)", "((0-a)-0)": "(0-a)", "((a&b)*1)": "(a&b)", "((1?P[a]:b)*1)": "(1?P[a]:b)",
		// These remain.
		"(0-a)": "(0-a)", "(0&a)": "(0&a)", "(a&0)": "(a&0)", "(0*a)": "(0*a)", "(a*0)": "(a*0)", "(P[0]*0)": "(P[0]*0)", "(0&P[0])": "(0&P[0])", "(0-P[0])": "(0-P[0])",
		"(1+a)": "(1+a)", "(a+1)": "(a+1)", "(1^a)": "(1^a)", "(a^1)": "(a^1)", "(1-a)": "(1-a)", "(a-1)": "(a-1)", "(1&a)": "(1&a)", "(a&1)": "(a&1)", "(255&a)": "(255&a)", "(a&255)": "(a&255)", "(2*a)": "(2*a)", "(a*2)": "(a*2)", "(255*a)": "(255*a)",
		"(0=a)": "(0=a)", "(a=0)": "(a=0)", "(1=a)": "(1=a)", "(a=1)": "(a=1)", "(0<a)": "(0<a)", "(a<0)": "(a<0)", "(1<a)": "(1<a)", "(a<1)": "(a<1)",
		"(a+a)": "(a+a)", "(a-a)": "(a-a)", "(a^a)": "(a^a)", "(a=a)": "(a=a)", "(a&a)": "(a&a)", "(a<a)": "(a<a)", "(a*a)": "(a*a)",
		// A constant that is neutral in another operation, or on the other side.
		"(b*0)": "(b*0)", "(b+1)": "(b+1)", "(0-b)": "(0-b)", "(1-b)": "(1-b)", "(b-1)": "(b-1)", "(b?0:1)": "(b?0:1)", "(b?1:0)": "(b?1:0)",
	} {
		checkFold(t, text, want)
	}
}

func TestExpressionsWithoutOperandsAreNotFolded(t *testing.T) {
	for _, text := range []string{"0", "1", "2", "255", "a", "b", "c", "P[0]", "P[1]", "P[255]", "Q[4]", "P[a]", "Q[c]"} {
		checkFold(t, text, text)
	}
}

func TestFoldedOperandsComeFirst(t *testing.T) {
	for text, want := range map[string]string{
		"((a+0)*(2-1))": "a", "((1-1)+a)": "a", "(a+(3-3))": "a", "((2<3)*a)": "a", "(a*(3=3))": "a", "(a-(0*7))": "a", "(a^(255+1))": "a", "((5&2)^a)": "a",
		"((1+2)+(3+4))": "10", "(((1+2)*3)-(4*2))": "1", "((0-1)<(1*1))": "0", "((255+1)=(2-2))": "1", "((((1+2)+3)+4)+5)": "15", "(1+(2+(3+(4+5))))": "15", "(255*(255*(255*255)))": "1",
		"((1<2)?a:b)": "a", "((2<1)?a:b)": "b", "((3-3)?a:b)": "b", "((1?0:1)?a:b)": "b", "((0?a:1)?b:c)": "b", "((0?0:0)?P[a]:b)": "(0?P[a]:b)", "((2*128)?a:P[0])": "(0?a:P[0])",
		"(a?(1+1):(0+b))": "(a?2:b)", "((a+0)?(1*b):(c-0))": "(a?b:c)", "((0+P[a])<(Q[b]^0))": "(P[a]<Q[b])", "((a+0)-(a*1))": "(a-a)", "((a-a)+0)": "(a-a)", "(0*(a+0))": "(0*a)",
		"((1?a:b)+(0?a:b))": "(a+b)", "(1?(0?a:b):c)": "b", "(0?a:(1?b:c))": "b", "(1?(1?(1?a:b):b):b)": "a", "((0?a:0)+b)": "b", "(b*(1?1:a))": "b", "(((a+0)+0)+0)": "a", "(0+(0+(0+(0+a))))": "a", "((((a-0)-0)-0)-0)": "a", "(0-(0-(0-a)))": "(0-(0-(0-a)))",
		"(1?(a+0):(P[0]*1))": "(1?a:P[0])", "(1?(0?a:P[b]):2)": "(1?(0?a:P[b]):2)", "((1?P[0]:1)*0)": "((1?P[0]:1)*0)", "((0*a)+0)": "(0*a)", "((0&0)+(a&0))": "(a&0)",
	} {
		checkFold(t, text, want)
	}
}

func TestGreatestFoldedExpressions(t *testing.T) {
	p := widest()
	for depth := 1; depth <= 5; depth++ {
		checkFoldedExpr(t, p, chainOf(depth), constant(depth))
	}
	for count := 1; count <= 15; count += 2 {
		checkFoldedExpr(t, p, bushOf(count), constant((count+1)/2))
	}
	checkNotFolded(t, "depth 6", p, chainOf(6))
	checkNotFolded(t, "17 nodes", p, bushOf(17))
	select5 := func(condition impl.Expr, others ...impl.Expr) impl.Expr {
		return operation(impl.ExprSelect, append([]impl.Expr{condition}, others...)...)
	}
	largest := select5(constant(0), constant(2), select5(constant(3), constant(4), select5(constant(5), variable(11), select5(constant(0), constant(7), variable(10)))))
	checkFoldedExpr(t, p, largest, constant(4))
	largest.Kids[2].Kids[0] = constant(0)
	checkFoldedExpr(t, p, largest, variable(11))
	largest.Kids[2].Kids[2].Kids[0] = constant(0)
	checkFoldedExpr(t, p, largest, variable(10))
	// Two more nodes, which are a read: 15 in all.
	largest.Kids[1], largest.Kids[2].Kids[1] = read(0, constant(9)), read(1, variable(3))
	checkFoldedExpr(t, p, largest, select5(constant(0), read(0, constant(9)), select5(constant(0), read(1, variable(3)), variable(10))))
	largest.Kids[0] = read(0, constant(9))
	checkNotFolded(t, "16 nodes", p, largest)
	// A read at the greatest depth keeps all selections around it.
	deepest := select5(constant(1), constant(2), select5(constant(1), constant(2), select5(constant(1), constant(2), read(1, variable(11)))))
	checkFoldedExpr(t, p, deepest, deepest)
	checkNotFolded(t, "depth 6 by a read", p, operation(impl.ExprAdd, constant(0), deepest))
}

func TestInvalidExpressionsAreNotFolded(t *testing.T) {
	p := parsed(t, "LH/L/")
	for what, e := range invalidExprs() {
		checkNotFolded(t, what, p, e)
		// Nothing else in the expression makes up for it, even if it would be dropped.
		checkNotFolded(t, what+" that is not chosen", p, operation(impl.ExprSelect, constant(1), constant(2), e))
		checkNotFolded(t, what+" and 0", p, operation(impl.ExprAdd, e, constant(0)))
		for _, s := range []impl.Stmt{assign(0, e), releaseTo(0, e), ifElse(e, nil, nil), storeTo(0, constant(1), e), storeTo(0, e, constant(1)), ifElse(constant(0), []impl.Stmt{assign(0, e)}, nil)} {
			checkNotFoldedProgram(t, what, impl.Program{Vars: p.Vars, Arrays: p.Arrays, Body: []impl.Stmt{s}})
		}
	}
	for what, q := range map[string]impl.Program{
		"nothing": {}, "no variables": {Arrays: []int{0}}, "13 variables": {Vars: make([]int, 13)}, "3 arrays": {Vars: []int{0}, Arrays: make([]int, 3)},
		"label 4": {Vars: []int{0, 4}}, "label -1": {Vars: []int{-1}}, "label 4 of an array": {Vars: []int{0}, Arrays: []int{4}}, "very many": {Vars: make([]int, veryDeep), Arrays: make([]int, veryDeep)},
	} {
		checkNotFolded(t, what, q, constant(1))
		checkNotFolded(t, what, q, variable(0))
		checkNotFolded(t, what, q, operation(impl.ExprAdd, constant(1), constant(2)))
	}
}

func TestFoldedExpressionsIgnoreTheBody(t *testing.T) {
	p := parsed(t, "LH/L/")
	for _, body := range [][]impl.Stmt{{{}}, {assign(9, constant(300))}, {repeat(0)}, slices.Repeat([]impl.Stmt{assign(0, bushOf(15))}, 61), {deepStmt(1)}, {circularStmt(1)}} {
		p.Body = body
		if e, ok := impl.FoldExpr(p, operation(impl.ExprAdd, read(0, variable(1)), constant(0))); !ok || !equalExprs(e, read(0, variable(1))) {
			t.Errorf("FoldExpr depends on the Body: %v, %v", e, ok)
		}
	}
}

func TestAllSmallFoldedExpressions(t *testing.T) {
	p := parsed(t, "LH/LL/")
	leaves := []impl.Expr{constant(0), constant(1), constant(2), constant(255), variable(0), variable(1), read(0, constant(1))}
	var pairs []impl.Expr
	for kind := impl.ExprAdd; kind <= impl.ExprLess; kind++ {
		for _, left := range leaves {
			for _, right := range leaves {
				pairs = append(pairs, operation(kind, left, right))
			}
		}
	}
	for _, e := range pairs {
		checkFoldedExpr(t, p, e, plainFold(e))
	}
	for _, condition := range leaves {
		for _, left := range leaves {
			for _, right := range leaves {
				e := operation(impl.ExprSelect, condition, left, right)
				checkFoldedExpr(t, p, e, plainFold(e))
			}
		}
	}
	// A pair on either side of every operation. Values are compared only for the ones above.
	for _, pair := range pairs {
		for _, leaf := range leaves {
			larger := []impl.Expr{operation(impl.ExprSelect, pair, leaf, constant(3)), operation(impl.ExprSelect, leaf, pair, variable(1)), operation(impl.ExprSelect, leaf, variable(1), pair)}
			for kind := impl.ExprAdd; kind <= impl.ExprLess; kind++ {
				larger = append(larger, operation(kind, pair, leaf), operation(kind, leaf, pair))
			}
			for _, e := range larger {
				if got, ok := impl.FoldExpr(p, e); !ok || !equalExprs(got, plainFold(e)) {
					t.Errorf("FoldExpr of %s = %s, %v, want %s", impl.FormatExpr(p, e), impl.FormatExpr(p, got), ok, impl.FormatExpr(p, plainFold(e)))
				}
			}
		}
	}
}

// withMoreConstants returns an expression in which many variables and constants are replaced by the constants 0 to 2.
func (s *source) withMoreConstants(e impl.Expr) impl.Expr {
	if len(e.Kids) == 0 && s.below(2) > 0 {
		return constant(s.below(3))
	}
	kids := e.Kids
	e.Kids = nil
	for _, kid := range kids {
		e.Kids = append(e.Kids, s.withMoreConstants(kid))
	}
	return e
}

func TestManyFoldedExpressions(t *testing.T) {
	numbers := source(80)
	changed, kept, reads := 0, 0, 0
	for range 5000 {
		p := numbers.someProgram(12)
		e := numbers.withMoreConstants(numbers.someExpr(p, 3+numbers.below(3)))
		if !impl.ExprValid(p, e) {
			checkNotFolded(t, "a large expression", p, e)
			continue
		}
		want := plainFold(e)
		checkFoldedExpr(t, p, e, want)
		switch {
		case len(e.Kids) == 0:
		case equalExprs(e, want):
			kept++
		default:
			changed++
			if hasRead(want) {
				reads++
			}
		}
	}
	if changed < 1500 || kept < 200 || reads < 200 {
		t.Errorf("only %d expressions that become simpler, %d of which have reads, and %d others were tried", changed, reads, kept)
	}
}

// constantBranch is how plainEvents writes a branch that FoldProgram may remove.
const constantBranch = "constant"

// plainEvents executes valid statements in m itself, and returns the events as words. The branches on values that plainFold makes constant are constantBranch.
func plainEvents(m impl.Memory, list []impl.Stmt) []string {
	var words []string
	for _, s := range list {
		switch s.Kind {
		case impl.StmtRepeat:
			for range s.Count {
				words = append(words, plainEvents(m, s.Body)...)
			}
		case impl.StmtIf:
			value, events := plainValue(m, s.Value)
			words = append(words, strings.Fields(plainTrace(events))...)
			next, word := s.Body, "1:1"
			if value == 0 {
				next, word = s.Else, "1:0"
			}
			if plainFold(s.Value).Kind == impl.ExprConst {
				word = constantBranch
			}
			words = append(append(words, word), plainEvents(m, next)...)
		default:
			words = append(words, strings.Fields(plainTrace(plainRun(m, []impl.Stmt{s})))...)
		}
	}
	return words
}

// checkFoldedRun checks that a program and its simplified form compute the same memory,
// where the trace of the latter is that of the former without the branches on constants, and returns both traces.
func checkFoldedRun(t *testing.T, p impl.Program, q impl.Program, m impl.Memory) (string, string) {
	t.Helper()
	want, events, ran := impl.RunProgram(p, m)
	out, others, ok := impl.RunProgram(q, m)
	if !ran || !ok || memoryText(out) != memoryText(want) {
		t.Errorf("%q makes %s of %s, %v, and %q makes %s of it, %v", impl.FormatProgram(p), memoryText(want), memoryText(m), ran, impl.FormatProgram(q), memoryText(out), ok)
	}
	words := plainEvents(clonedMemory(m), p.Body)
	left := strings.Join(slices.DeleteFunc(words, func(word string) bool { return word == constantBranch }), " ")
	if plainTrace(others) != left || len(others) > len(events) {
		t.Errorf("%q has the trace %s with %s, and %q has %s, want %s", impl.FormatProgram(p), plainTrace(events), memoryText(m), impl.FormatProgram(q), plainTrace(others), left)
	}
	return plainTrace(events), plainTrace(others)
}

// checkFoldedProgram checks what FoldProgram returns for a program, and what that computes, and returns it.
func checkFoldedProgram(t *testing.T, p impl.Program, want []impl.Stmt) impl.Program {
	t.Helper()
	text := impl.FormatProgram(p)
	wanted := impl.Program{Vars: p.Vars, Arrays: p.Arrays, Body: want}
	q, ok := impl.FoldProgram(p)
	if !ok || !equalPrograms(q, wanted) || !impl.ProgramValid(q) {
		t.Errorf("FoldProgram of %q = %q, %v, want %q", text, impl.FormatProgram(q), ok, impl.FormatProgram(wanted))
	}
	if again, ok := impl.FoldProgram(q); !ok || !equalPrograms(again, q) {
		t.Errorf("FoldProgram of %q = %q, %v, though it is a result of FoldProgram", impl.FormatProgram(q), impl.FormatProgram(again), ok)
	}
	if plain := plainlyFolded(p.Body); !slices.EqualFunc(plain, want, equalStmts) {
		t.Errorf("the plain form of %q has the statements %v", text, plain)
	}
	numbers := source(len(text))
	for range 10 {
		checkFoldedRun(t, p, q, numbers.someMemory(p))
	}
	return q
}

// checkFoldProgram checks FoldProgram with the texts of statements, for a program with three variables and two arrays.
func checkFoldProgram(t *testing.T, text string, want string) {
	t.Helper()
	checkFoldedProgram(t, parsed(t, "LHU/HX/"+text), parsed(t, "LHU/HX/"+want).Body)
}

// checkNotFoldedProgram checks that FoldProgram does not accept a program.
func checkNotFoldedProgram(t *testing.T, what string, p impl.Program) {
	t.Helper()
	if q, ok := impl.FoldProgram(p); ok || !isZeroProgram(q) {
		t.Errorf("%s: FoldProgram = %v, %v", what, q, ok)
	}
}

func TestFoldedValues(t *testing.T) {
	for text, want := range map[string]string{
		"": "", "a:=(b+0);": "a:=b;", "a:=(1+1);": "a:=2;", "a!=(1*b);": "a!=b;", "a!=(0?b:c);": "a!=c;", "P[a]:=(2*3);": "P[a]:=6;", "Q[3]:=(b^0);": "Q[3]:=b;",
		"if(a+0){}{}": "ifa{}{}", "if(a*1){b:=1;}{b:=2;}": "ifa{b:=1;}{b:=2;}", "if(a=(1+1)){}{b:=1;}": "if(a=2){}{b:=1;}", "repeat2{a:=(a-0);}": "repeat2{a:=a;}", "repeat3{P[0]:=(1?a:b);}": "repeat3{P[0]:=a;}",
		// Inside others.
		"ifa{b:=(1*b);}{b:=(0+0);}": "ifa{b:=b;}{b:=0;}", "ifa{ifb{c!=(3-3);}{}}{ifb{}{P[1]:=(0^a);}}": "ifa{ifb{c!=0;}{}}{ifb{}{P[1]:=a;}}", "repeat2{repeat3{ifa{a:=(5<7);}{}}}": "repeat2{repeat3{ifa{a:=1;}{}}}",
		// These remain, though they have no effect.
		"a:=a;": "a:=a;", "a!=a;": "a!=a;", "P[a]:=P[a];": "P[a]:=P[a];", "ifa{}{}": "ifa{}{}", "ifP[a]{}{}": "ifP[a]{}{}", "a:=1;a:=1;": "a:=1;a:=1;", "if(a*0){}{}": "if(a*0){}{}", "if(1?P[0]:1){a:=1;}{}": "if(1?P[0]:1){a:=1;}{}", "ifa{b:=1;}{b:=1;}": "ifa{b:=1;}{b:=1;}",
	} {
		checkFoldProgram(t, text, want)
	}
}

func TestFoldedTargetsAndIndices(t *testing.T) {
	for target, name := range []string{"P", "Q"} {
		for _, index := range []impl.Expr{constant(0), constant(1), constant(3), constant(4), constant(255), variable(0), variable(2)} {
			p := impl.Program{Vars: []int{0, 1, 2}, Arrays: []int{1, 3}, Body: []impl.Stmt{storeTo(target, index, operation(impl.ExprMul, constant(1), read(1-target, index)))}}
			q := checkFoldedProgram(t, p, []impl.Stmt{storeTo(target, index, read(1-target, index))})
			if q.Body[0].Target != target || !equalExprs(q.Body[0].Index, index) {
				t.Errorf("FoldProgram changes a store to %s: %v", name, q)
			}
		}
	}
	for target := range 12 {
		checkFoldedProgram(t, widest(assign(target, bushOf(3)), releaseTo(target, bushOf(5))), []impl.Stmt{assign(target, constant(2)), releaseTo(target, constant(3))})
	}
}

func TestFoldedBranches(t *testing.T) {
	for text, want := range map[string]string{
		"if0{a:=1;}{a:=2;}": "a:=2;", "if1{a:=1;}{a:=2;}": "a:=1;", "if2{a:=1;}{a:=2;}": "a:=1;", "if255{a:=1;}{a:=2;}": "a:=1;", "if(1-1){a:=1;}{a:=2;}": "a:=2;", "if(1<2){a:=1;}{a:=2;}": "a:=1;", "if(0?a:3){a:=1;}{a:=2;}": "a:=1;",
		"if0{}{a:=2;}": "a:=2;", "if1{}{a:=2;}": "", "if0{a:=1;}{}": "", "if1{a:=1;}{}": "a:=1;", "if0{}{}": "", "if1{}{}": "", "if7{}{}": "",
		"if1{a:=1;b:=2;c:=3;}{}": "a:=1;b:=2;c:=3;", "if0{}{a:=1;b:=2;c:=3;}": "a:=1;b:=2;c:=3;",
		// What is removed may read, write, release and branch.
		"if0{a:=P[0];P[a]:=1;b!=1;ifa{}{}repeat3{a:=(a+1);}}{}": "", "if1{}{a:=P[0];P[a]:=1;b!=1;ifa{}{}repeat3{a:=(a+1);}}": "",
		"if1{a:=P[0];P[a]:=(b*1);b!=1;ifa{}{}}{}": "a:=P[0];P[a]:=b;b!=1;ifa{}{}",
		// In a row, and with statements in front and behind.
		"if0{a:=1;}{}if1{a:=2;}{}if0{}{a:=3;}": "a:=2;a:=3;", "a:=1;if0{a:=2;}{}a:=3;": "a:=1;a:=3;", "a:=1;if1{a:=2;b:=2;}{}a:=3;": "a:=1;a:=2;b:=2;a:=3;", "if0{}{}if1{}{}ifa{}{}if0{}{}": "ifa{}{}",
		// In each other.
		"if1{if1{if1{a:=1;}{}}{}}{}": "a:=1;", "if0{}{if0{}{if0{}{a:=1;}}}": "a:=1;", "if1{if0{a:=1;}{b:=2;}c:=3;}{}": "b:=2;c:=3;", "ifa{if1{b:=1;}{}}{if0{b:=2;}{}}": "ifa{b:=1;}{}", "ifa{if0{b:=1;}{}}{if1{}{b:=1;}}": "ifa{}{}", "if(b=(0*2)){if1{c:=1;}{}}{}": "if(b=0){c:=1;}{}",
		"if0{if1{a:=1;}{}}{ifa{if1{b:=1;}{}}{}}": "ifa{b:=1;}{}",
	} {
		checkFoldProgram(t, text, want)
	}
	for n := range 256 {
		want := "a:=1;a:=2;"
		if n == 0 {
			want = "a:=3;"
		}
		checkFoldProgram(t, "if"+strconv.Itoa(n)+"{a:=1;a:=2;}{a:=3;}", want)
	}
}

func TestFoldedRepetitions(t *testing.T) {
	for text, want := range map[string]string{
		"repeat1{}": "", "repeat2{}": "", "repeat3{}": "", "repeat1{a:=1;}": "a:=1;", "repeat2{a:=1;}": "repeat2{a:=1;}", "repeat3{a:=1;}": "repeat3{a:=1;}", "repeat1{a:=1;b:=2;c!=3;}": "a:=1;b:=2;c!=3;",
		// With statements that are all removed.
		"repeat2{if0{a:=1;}{}}": "", "repeat3{if1{}{a:=1;}repeat1{}}": "", "repeat1{if0{a:=1;}{}}": "", "repeat2{repeat3{}}": "", "repeat3{repeat2{repeat1{repeat2{}}}}": "", "repeat2{if1{repeat3{}}{a:=1;}}": "", "repeat2{if0{}{}if0{}{}if0{}{}}": "",
		// These keep some.
		"repeat2{if0{a:=1;}{}a:=2;}": "repeat2{a:=2;}", "repeat3{if1{a:=1;}{}}": "repeat3{a:=1;}", "repeat2{ifa{}{}}": "repeat2{ifa{}{}}", "repeat2{repeat1{a:=(a+1);}}": "repeat2{a:=(a+1);}", "repeat1{repeat2{a:=(a+1);}}": "repeat2{a:=(a+1);}", "repeat3{repeat2{a:=(a+1);}}": "repeat3{repeat2{a:=(a+1);}}",
		"repeat1{repeat1{repeat1{repeat1{a:=1;}}}}": "a:=1;", "repeat1{repeat3{repeat1{repeat2{a:=(a+1);}}}}": "repeat3{repeat2{a:=(a+1);}}", "repeat2{if1{repeat1{a:=1;}}{}}": "repeat2{a:=1;}",
		// In a row, and with statements in front and behind.
		"repeat1{}repeat2{}repeat3{}": "", "a:=1;repeat2{}a:=2;": "a:=1;a:=2;", "repeat1{a:=1;}repeat1{a:=2;}repeat2{a:=3;}": "a:=1;a:=2;repeat2{a:=3;}", "a:=1;repeat1{a:=2;b:=2;}a:=3;": "a:=1;a:=2;b:=2;a:=3;",
		// In branches, which stay.
		"ifa{repeat2{}}{repeat1{b:=1;}}": "ifa{}{b:=1;}", "ifa{repeat1{}}{repeat3{}}": "ifa{}{}", "ifa{repeat1{repeat1{}b:=1;}}{}": "ifa{b:=1;}{}", "ifa{repeat1{ifb{repeat1{c:=1;}}{}}}{}": "ifa{ifb{c:=1;}{}}{}",
	} {
		checkFoldProgram(t, text, want)
	}
	checkFoldProgram(t, "a:=((a+0)*(2-1));ifb{}{repeat1{if(1=2){a:=1;}{b:=(0?P[0]:a);}}repeat3{}}", "a:=a;ifb{}{b:=(0?P[0]:a);}")
}

func TestGreatestFoldedPrograms(t *testing.T) {
	for depth := 1; depth <= 5; depth++ {
		want := []impl.Stmt{assign(0, constant(1))}
		checkFoldedProgram(t, smallest(nestOf(depth, "body")), want)
		checkFoldedProgram(t, smallest(nestOf(depth, "repeat")), want)
		if depth > 1 {
			want = nil
		}
		// Each condition is 1, so that the Else of the first one is not used.
		checkFoldedProgram(t, smallest(nestOf(depth, "else")), want)
	}
	for _, where := range []string{"body", "else", "repeat"} {
		checkNotFoldedProgram(t, "depth 6 in "+where, smallest(nestOf(6, where)))
	}
	sixty := slices.Repeat([]impl.Stmt{assign(0, bushOf(15))}, 60)
	folded := slices.Repeat([]impl.Stmt{assign(0, constant(8))}, 60)
	checkFoldedProgram(t, smallest(sixty...), folded)
	checkFoldedProgram(t, smallest(slices.Repeat([]impl.Stmt{repeat(3)}, 60)...), nil)
	checkFoldedProgram(t, smallest(repeat(1, sixty[:59]...)), folded[:59])
	checkFoldedProgram(t, smallest(repeat(3, repeat(2, sixty[:58]...))), []impl.Stmt{repeat(3, repeat(2, folded[:58]...))})
	checkFoldedProgram(t, smallest(ifElse(constant(0), sixty[:30], sixty[:29])), folded[:29])
	checkFoldedProgram(t, smallest(ifElse(constant(1), sixty[:30], sixty[:29])), folded[:30])
	for what, p := range map[string]impl.Program{
		"61 statements": smallest(append(sixty, repeat(1))...), "61 that would be removed": smallest(slices.Repeat([]impl.Stmt{repeat(3)}, 61)...), "61 inner ones": smallest(ifElse(constant(1), sixty[:30], sixty[:30])), "61 in a repetition": smallest(repeat(1, sixty...)),
	} {
		checkNotFoldedProgram(t, what, p)
	}
}

func TestInvalidProgramsAreNotFolded(t *testing.T) {
	for what, p := range invalidPrograms() {
		checkNotFoldedProgram(t, what, p)
		// Nothing that would be removed makes an invalid program valid.
		if len(p.Body) > 0 {
			checkNotFoldedProgram(t, what, impl.Program{Vars: p.Vars, Arrays: p.Arrays, Body: []impl.Stmt{ifElse(constant(0), p.Body, nil)}})
			checkNotFoldedProgram(t, what, impl.Program{Vars: p.Vars, Arrays: p.Arrays, Body: []impl.Stmt{repeat(1), ifElse(constant(1), nil, p.Body)}})
		}
	}
	for _, count := range []int{math.MinInt, -1, 0, 4, 5, 256, 257, 1<<32 + 1, math.MaxInt} {
		for _, s := range []impl.Stmt{repeat(count), repeat(count, assign(0, constant(1))), repeat(2, repeat(count)), ifElse(constant(1), nil, []impl.Stmt{repeat(count)})} {
			checkNotFoldedProgram(t, "count "+strconv.Itoa(count), smallest(s))
		}
	}
}

// foldable returns statements with more constants and with repetitions of nothing.
func (s *source) foldable(list []impl.Stmt) []impl.Stmt {
	list = slices.Clone(list)
	for i := range list {
		if list[i].Kind != impl.StmtRepeat && s.below(3) > 0 {
			list[i].Value = s.withMoreConstants(list[i].Value)
		}
		if list[i].Kind == impl.StmtIf && s.below(3) == 0 {
			list[i].Value = constant(s.below(3))
		}
		list[i].Body, list[i].Else = s.foldable(list[i].Body), s.foldable(list[i].Else)
	}
	return list
}

// foldableProgram returns a valid program of which FoldProgram may change much.
func (s *source) foldableProgram(vars int) impl.Program {
	p := s.deepProgram(vars)
	p.Body = s.foldable(p.Body)
	return p
}

func TestManyFoldedPrograms(t *testing.T) {
	numbers := source(81)
	seen := map[string]int{}
	for range 2500 {
		p := numbers.foldableProgram(6)
		if !impl.ProgramValid(p) {
			t.Fatalf("%v is not valid", p)
		}
		want := plainlyFolded(p.Body)
		q := checkFoldedProgram(t, p, want)
		switch {
		case len(want) == 0 && len(p.Body) > 0:
			seen["empty"]++
		case equalPrograms(p, q):
			seen["same"]++
		case impl.CountStmts(q) < impl.CountStmts(p):
			seen["smaller"]++
		}
		// Equal traces of the program are equal traces of what it becomes.
		traces := map[string]string{}
		for range 6 {
			trace, other := checkFoldedRun(t, p, q, numbers.someMemory(p))
			if before, ok := traces[trace]; !ok {
				traces[trace] = other
			} else if before != other {
				t.Errorf("%q has the trace %s twice, but %q has %s and %s", impl.FormatProgram(p), trace, impl.FormatProgram(q), before, other)
			} else if trace != other {
				seen["equal traces"]++
			}
		}
	}
	for what, least := range map[string]int{"empty": 10, "same": 100, "smaller": 800, "equal traces": 500} {
		if seen[what] < least {
			t.Errorf("%s was seen only %d times", what, seen[what])
		}
	}
}

func TestFoldedProgramsKeepPromises(t *testing.T) {
	numbers := source(82)
	fine := 0
	for range 1500 {
		p, _ := impl.InferLabels(numbers.foldableProgram(5))
		if resultText(impl.CheckFlow(p)) != "fine" {
			continue
		}
		q, ok := impl.FoldProgram(p)
		strict, _ := impl.CheckConstantTime(p)
		if after, _ := impl.CheckConstantTime(q); !ok || resultText(impl.CheckFlow(q)) != "fine" || strict == impl.FlowFine && after != impl.FlowFine {
			t.Errorf("FoldProgram of %q = %q, which is not as safe", impl.FormatProgram(p), impl.FormatProgram(q))
		}
		fine++
	}
	if fine < 300 {
		t.Errorf("only %d programs were tried", fine)
	}
}

// plainTarget returns the target of an instruction, or -1.
func plainTarget(in impl.Instr) int {
	switch opTable[in.Op].name {
	case "jump":
		return in.A
	case "zero", "loop":
		return in.B
	}
	return -1
}

// withTarget returns an instruction that has a target, with another one.
func withTarget(in impl.Instr, target int) impl.Instr {
	*fieldOf(&in, strings.IndexByte(opTable[in.Op].fields, 't')) = target
	return in
}

// plainReach is ReachableCode for valid code: it goes through all instructions as often as there are some.
func plainReach(c impl.Code) []bool {
	found := make([]bool, len(c.List)+1)
	found[0] = true
	for changed := true; changed; {
		changed = false
		mark := func(at int) {
			changed = changed || !found[at]
			found[at] = true
		}
		for at, in := range c.List {
			if !found[at] {
				continue
			}
			if target := plainTarget(in); target >= 0 {
				mark(target)
			}
			if name := opTable[in.Op].name; name != "jump" && name != "halt" {
				mark(at + 1)
			}
		}
	}
	return found[:len(c.List)]
}

// plainlyThreaded is ThreadJumps for valid code.
func plainlyThreaded(c impl.Code) impl.Code {
	result := clonedCode(c)
	for at, in := range c.List {
		target := plainTarget(in)
		if target < 0 {
			continue
		}
		seen := map[int]bool{}
		final := target
		for c.List[final].Op == impl.OpJump && !seen[final] {
			seen[final] = true
			final = c.List[final].A
		}
		if !seen[final] {
			result.List[at] = withTarget(in, final)
		}
	}
	return result
}

// plainlyTrimmed is TrimCode for valid code. It removes one instruction after the other, from the last to the first.
func plainlyTrimmed(c impl.Code) impl.Code {
	result, reach := clonedCode(c), plainReach(c)
	for at := len(c.List) - 1; at >= 0; at-- {
		if reach[at] && !(c.List[at].Op == impl.OpJump && c.List[at].A == at+1) {
			continue
		}
		result = withoutInstr(result, at)
	}
	return result
}

// withoutInstr returns code without an instruction. A target that was this one becomes the next one.
func withoutInstr(c impl.Code, at int) impl.Code {
	result := clonedCode(c)
	result.List = slices.Delete(result.List, at, at+1)
	for i, in := range result.List {
		if target := plainTarget(in); target > at {
			result.List[i] = withTarget(in, target-1)
		}
	}
	return result
}

// plainlyOptimized is OptimizeCode for valid code. It also returns how many rounds change the code.
func plainlyOptimized(c impl.Code) (impl.Code, int) {
	for rounds := 0; ; rounds++ {
		next := plainlyTrimmed(plainlyThreaded(c))
		if slices.Equal(next.List, c.List) {
			return next, rounds
		}
		c = next
	}
}

// optimizers are the functions that change code.
var optimizers = []struct {
	name  string
	apply func(c impl.Code) (impl.Code, bool)
	plain func(c impl.Code) impl.Code
}{
	{"ThreadJumps", impl.ThreadJumps, plainlyThreaded},
	{"TrimCode", impl.TrimCode, plainlyTrimmed},
	{"OptimizeCode", impl.OptimizeCode, func(c impl.Code) impl.Code { best, _ := plainlyOptimized(c); return best }},
}

// checkOptimized checks what all functions return for valid code, and returns the results of those that change it.
func checkOptimized(t *testing.T, c impl.Code) []impl.Code {
	t.Helper()
	text := plainCodeText(c)
	if got, want := impl.ReachableCode(c), plainReach(c); !slices.Equal(got, want) {
		t.Errorf("ReachableCode of %q = %s, want %s", text, marks(got), marks(want))
	}
	var results []impl.Code
	for _, optimizer := range optimizers {
		want := optimizer.plain(c)
		got, ok := optimizer.apply(c)
		if !ok || !reflect.DeepEqual(got.List, want.List) || !equalLists(got.Vars, c.Vars) || !equalLists(got.Arrays, c.Arrays) || !impl.CodeValid(got) {
			t.Fatalf("%s of %q = %v, %v, want %q", optimizer.name, text, got, ok, plainCodeText(want))
		}
		results = append(results, got)
	}
	best := results[2]
	for _, optimizer := range optimizers {
		if again, ok := optimizer.apply(best); !ok || !impl.CodeSame(again, best) {
			t.Errorf("%s of %q = %q, %v, though it is optimized", optimizer.name, plainCodeText(best), plainCodeText(again), ok)
		}
	}
	if again, ok := impl.ThreadJumps(results[0]); !ok || !impl.CodeSame(again, results[0]) {
		t.Errorf("ThreadJumps of %q = %q, %v, though its jumps are threaded", plainCodeText(results[0]), plainCodeText(again), ok)
	}
	return results
}

// checkOptimizedRun checks that code and what it becomes compute the same memory, with the same reads, writes and releases and no more steps.
// It returns the trace of the code and those of what it becomes, or false if the code does not halt.
func checkOptimizedRun(t *testing.T, c impl.Code, results []impl.Code, m impl.Memory) (string, []string, bool) {
	t.Helper()
	want, events, halts := impl.RunCode(c, m)
	if !halts {
		return "", nil, false
	}
	var traces []string
	for i, result := range results {
		out, others, ok := impl.RunCode(result, m)
		if !ok || memoryText(out) != memoryText(want) || len(others) > len(events) || plainTrace(plainlyProjected(others)) != plainTrace(plainlyProjected(events)) {
			t.Errorf("%q makes %s of %s with %s, and %s of it, %q, makes %s, %v, with %s", plainCodeText(c), memoryText(want), memoryText(m), plainTrace(events), optimizers[i].name, plainCodeText(result), memoryText(out), ok, plainTrace(others))
		}
		traces = append(traces, plainTrace(others))
	}
	return plainTrace(events), traces, true
}

// hidesBranches reports whether a branch leads to the next instruction either way, and this is a jump.
// The trace does not tell which way it went, but that of threaded code may, since chapter 8 replaces the target alone.
func hidesBranches(c impl.Code) bool {
	for at, in := range c.List {
		if in.Op != impl.OpJump && plainTarget(in) == at+1 && c.List[at+1].Op == impl.OpJump {
			return true
		}
	}
	return false
}

// checkOptimizedRuns checks what code and its results do with some memories, and that equal traces stay equal, until the code does not halt.
// It returns how many traces were equal, and how often the code halted.
func checkOptimizedRuns(t *testing.T, c impl.Code, results []impl.Code, numbers *source, count int) (int, int) {
	t.Helper()
	traces, equal := map[string][]string{}, 0
	for halted := range count {
		trace, others, ok := checkOptimizedRun(t, c, results, numbers.someMemory(impl.Program{Vars: c.Vars, Arrays: c.Arrays}))
		if !ok {
			return equal, halted
		}
		before, found := traces[trace]
		traces[trace] = others
		if !found {
			continue
		}
		equal++
		for i, optimizer := range optimizers {
			if before[i] != others[i] && (optimizer.name == "TrimCode" || !hidesBranches(c)) {
				t.Errorf("%q has the trace %s twice, but %s of it has %s and %s", plainCodeText(c), trace, optimizer.name, before[i], others[i])
			}
		}
	}
	return equal, count
}

// optimizeRow has code and, in the same form, what becomes of it.
type optimizeRow struct{ list, reached, threaded, trimmed, best string }

// checkOptimizeRow checks a row. A result that is empty in it is the code itself.
func checkOptimizeRow(t *testing.T, row optimizeRow) {
	t.Helper()
	c := codeIn(t, "LH/L", row.list)
	if got := marks(impl.ReachableCode(c)); got != row.reached {
		t.Errorf("ReachableCode of %s = %s, want %s", row.list, got, row.reached)
	}
	for i, want := range []string{row.threaded, row.trimmed, row.best} {
		if want == "" {
			want = row.list
		}
		if got, ok := optimizers[i].apply(c); !ok || !reflect.DeepEqual(got, codeIn(t, "LH/L", want)) {
			t.Errorf("%s of %s = %q, %v, want %s", optimizers[i].name, row.list, plainCodeText(got), ok, want)
		}
	}
	numbers := source(len(row.list))
	checkOptimizedRuns(t, c, checkOptimized(t, c), &numbers, 10)
}

// everyOperation has each operation that is not a jump, a branch or a halt.
const everyOperation = "const 0 9; get 1 1; put 0 1; load 2 0 1; store 0 2 1; bin 3 10 2 1; select 4 3 2 1; release 4; fence; halt"

func TestCodeWithoutJumps(t *testing.T) {
	for _, list := range []string{"halt", "const 0 5; put 0 0; halt", everyOperation} {
		checkOptimizeRow(t, optimizeRow{list, strings.Repeat("1", 1+strings.Count(list, ";")), "", "", ""})
	}
	// Behind each of these is what can be reached, too.
	for op := impl.OpConst; op <= impl.OpHalt; op++ {
		c := withInstr("L/L", 4, 1, leastInstr(op))
		want := "1111"
		if op == impl.OpJump || op == impl.OpHalt {
			want = "1100"
		}
		if got := marks(impl.ReachableCode(c)); got != want {
			t.Errorf("ReachableCode of %q = %s, want %s", plainCodeText(c), got, want)
		}
		checkOptimized(t, c)
	}
}

func TestReachableCode(t *testing.T) {
	for list, want := range map[string]string{
		"halt": "1", "jump 0": "1", "halt; halt": "10", "halt; fence; halt": "100", "jump 0; halt": "10", "fence; halt; fence; fence; jump 0": "11000", "jump 2; fence; halt": "101", "fence; jump 3; fence; halt": "1101",
		// Targets in front of what refers to them and behind it.
		"zero 0 2; halt; halt": "111", "zero 0 3; halt; fence; halt": "1101", "loop 0 3; halt; fence; halt": "1101", "jump 3; fence; halt; jump 1": "1111", "jump 3; halt; halt; zero 0 2; jump 3": "10111", "jump 3; halt; fence; loop 0 1; jump 4": "11011", "jump 2; halt; zero 0 1; halt": "1111",
		"fence; zero 0 0; halt": "111", "zero 0 0; halt": "11", "loop 0 0; halt": "11", "zero 0 1; halt": "11", "const 0 3; fence; loop 0 1; halt": "1111",
		// What only refers to what can be reached, or to itself, cannot.
		"halt; jump 0": "10", "halt; zero 0 0; halt": "100", "halt; loop 0 1; jump 1": "100", "jump 0; jump 1; jump 2": "100", "halt; jump 2; jump 1": "100",
		// A long way there and back.
		"jump 6; halt; jump 1; jump 2; jump 3; jump 4; jump 5": "1111111", "jump 6; halt; jump 1; halt; jump 3; jump 2; jump 5": "1110011", "jump 4; halt; fence; halt; zero 1 2; zero 2 7; halt; jump 1": "11111111",
	} {
		c := codeIn(t, "LH/L", list)
		if got := marks(impl.ReachableCode(c)); got != want {
			t.Errorf("ReachableCode of %s = %s, want %s", list, got, want)
		}
		checkOptimized(t, c)
	}
}

func TestReachableCodeAtTheLimit(t *testing.T) {
	// A chain of jumps back from the last instruction, and one of branches.
	back := []impl.Instr{instr(impl.OpJump, 399), instr(impl.OpHalt)}
	for at := 2; at < 400; at++ {
		back = append(back, instr(impl.OpJump, at-1))
	}
	for _, list := range [][]impl.Instr{back, append(slices.Repeat([]impl.Instr{instr(impl.OpZero, 0, 399)}, 399), instr(impl.OpHalt)), append(slices.Repeat([]impl.Instr{instr(impl.OpFence)}, 399), instr(impl.OpHalt))} {
		c := codeOf("L/", list...)
		if got := marks(impl.ReachableCode(c)); got != strings.Repeat("1", 400) {
			t.Errorf("ReachableCode of %q = %s", plainCodeText(c), got)
		}
		checkOptimized(t, c)
	}
	if best, ok := impl.OptimizeCode(codeOf("L/", back...)); !ok || plainCodeText(best) != "code L/\nhalt\n" {
		t.Errorf("OptimizeCode of many jumps = %q, %v", plainCodeText(best), ok)
	}
}

func TestThreadedJumps(t *testing.T) {
	for list, want := range map[string]string{
		// A jump, a zero and a loop to a jump, forwards and backwards.
		"jump 2; halt; jump 1": "jump 1; halt; jump 1", "zero 0 3; halt; fence; jump 1": "zero 0 1; halt; fence; jump 1", "loop 0 3; halt; fence; jump 1": "loop 0 1; halt; fence; jump 1",
		"fence; jump 4; zero 0 1; loop 1 1; halt": "fence; jump 4; zero 0 4; loop 1 4; halt", "fence; jump 0; jump 1": "fence; jump 0; jump 0", "jump 1; jump 2; halt": "jump 2; jump 2; halt",
		// To several in a row.
		"zero 0 2; halt; jump 3; jump 4; jump 5; halt": "zero 0 5; halt; jump 5; jump 5; jump 5; halt", "jump 4; halt; jump 1; jump 2; jump 3": "jump 1; halt; jump 1; jump 1; jump 1", "loop 3 5; halt; jump 4; jump 2; jump 1; jump 3": "loop 3 1; halt; jump 1; jump 1; jump 1; jump 1",
		// To a jump to itself.
		"jump 0": "", "jump 0; halt": "", "jump 1; jump 1": "", "zero 0 2; halt; jump 2": "", "loop 0 2; halt; jump 2": "", "jump 1; jump 2; jump 2": "", "zero 0 3; halt; jump 2; jump 2": "", "fence; jump 3; halt; jump 3": "",
		// To cycles of two and more, from outside and from within.
		"jump 1; jump 0": "", "jump 1; jump 2; jump 1": "", "jump 1; jump 2; jump 0": "", "jump 2; jump 0; jump 1": "", "zero 0 3; halt; jump 3; jump 2": "", "loop 0 2; halt; jump 4; jump 2; jump 3": "", "jump 3; halt; jump 3; jump 4; jump 5; jump 2": "",
		"zero 0 4; zero 1 5; zero 2 6; halt; jump 5; jump 6; jump 4": "", "jump 1; jump 2; jump 3; jump 4; jump 2": "", "zero 0 2; halt; jump 3; jump 4; jump 5; jump 4": "",
		// A cycle and jumps that end, side by side.
		"zero 0 2; zero 0 4; jump 3; jump 2; jump 5; halt": "zero 0 2; zero 0 5; jump 3; jump 2; jump 5; halt", "jump 3; jump 1; halt; jump 2": "jump 2; jump 1; halt; jump 2",
		// A branch is no jump, even to itself.
		"jump 1; zero 0 2; zero 0 0; halt": "jump 1; zero 0 2; zero 0 1; halt", "jump 1; loop 0 1; jump 1": "", "zero 0 1; zero 0 0; halt": "", "jump 1; fence; jump 1": "",
		"halt": "", everyOperation: "", "jump 3; halt; jump 1; fence; jump 2": "jump 3; halt; jump 1; fence; jump 1",
		"get 0 0; zero 0 4; jump 5; fence; jump 6; jump 6; put 0 0; halt": "get 0 0; zero 0 6; jump 6; fence; jump 6; jump 6; put 0 0; halt",
	} {
		if want == "" {
			want = list
		}
		c := codeIn(t, "LH/L", list)
		if got, ok := impl.ThreadJumps(c); !ok || !reflect.DeepEqual(got, codeIn(t, "LH/L", want)) {
			t.Errorf("ThreadJumps of %s = %q, %v, want %s", list, plainCodeText(got), ok, want)
		}
		numbers := source(len(list))
		checkOptimizedRuns(t, c, checkOptimized(t, c), &numbers, 10)
	}
}

func TestThreadedJumpsAtTheLimit(t *testing.T) {
	for _, size := range []int{2, 3, 10, 399, 400} {
		var ring, chain []impl.Instr
		for at := range size {
			ring = append(ring, instr(impl.OpJump, (at+1)%size))
			chain = append(chain, instr(impl.OpJump, min(at+1, size-1)))
		}
		c := codeOf("L/", ring...)
		if got, ok := impl.ThreadJumps(c); !ok || !impl.CodeSame(got, c) {
			t.Errorf("ThreadJumps of a ring of %d = %q, %v", size, plainCodeText(got), ok)
		}
		checkOptimized(t, c)
		// The last of the chain leads to itself, and then it is a halt.
		c = codeOf("L/", chain...)
		if got, ok := impl.ThreadJumps(c); !ok || !impl.CodeSame(got, c) {
			t.Errorf("ThreadJumps of a chain of %d = %q, %v", size, plainCodeText(got), ok)
		}
		checkOptimized(t, c)
		c.List[size-1] = instr(impl.OpHalt)
		want := codeOf("L/", append(slices.Repeat([]impl.Instr{instr(impl.OpJump, size-1)}, size-1), instr(impl.OpHalt))...)
		if got, ok := impl.ThreadJumps(c); !ok || !impl.CodeSame(got, want) {
			t.Errorf("ThreadJumps of a chain of %d that ends = %q, %v", size, plainCodeText(got), ok)
		}
		checkOptimized(t, c)
	}
}

func TestTrimmedCode(t *testing.T) {
	for list, want := range map[string]string{
		// Nothing is removed.
		"halt": "", everyOperation: "", "jump 0": "", "zero 0 2; halt; halt": "", "fence; jump 0": "", "zero 0 2; jump 3; fence; halt": "", "zero 0 1; loop 0 2; halt": "",
		// What cannot be reached, at the beginning of a block, in the middle of it and behind a halt.
		"jump 2; fence; halt": "jump 1; halt", "jump 3; fence; const 0 1; get 0 0; halt": "jump 1; get 0 0; halt", "const 0 1; halt; const 0 2; halt": "const 0 1; halt", "halt; halt; halt": "halt", "halt; jump 0": "halt", "jump 0; halt": "jump 0", "fence; jump 0; fence; jump 2": "fence; jump 0",
		"zero 0 4; const 0 1; halt; const 0 2; fence; halt": "zero 0 3; const 0 1; halt; fence; halt", "zero 0 5; fence; jump 6; const 0 1; const 0 2; release 0; put 0 0; halt": "zero 0 3; fence; jump 4; release 0; put 0 0; halt",
		"halt; zero 0 0; loop 0 1; jump 2": "halt", "jump 4; halt; fence; halt; zero 0 1; jump 6; halt": "jump 2; halt; zero 0 1; halt",
		// Jumps to the next instruction, alone and in a row.
		"jump 1; halt": "halt", "fence; jump 2; halt": "fence; halt", "jump 1; jump 2; jump 3; halt": "halt", "fence; jump 2; jump 3; fence; jump 5; halt": "fence; fence; halt", "jump 1; jump 1": "jump 0", "jump 1; jump 0": "jump 0", "jump 1; fence; jump 0": "fence; jump 0",
		// Other jumps and branches stay, though the next instruction is what remains behind them.
		"jump 2; halt; jump 3; halt": "jump 1; halt", "jump 2; jump 1; halt": "jump 1; halt", "zero 0 1; halt": "", "loop 0 1; halt": "", "zero 0 2; jump 2; halt": "zero 0 1; halt", "loop 0 2; jump 2; halt": "loop 0 1; halt", "jump 3; fence; fence; halt": "jump 1; halt",
		// Targets that are removed, of each kind, forwards and backwards.
		"zero 0 2; jump 3; jump 3; halt": "zero 0 2; jump 2; halt", "loop 0 2; halt; jump 3; fence; halt": "loop 0 2; halt; fence; halt", "jump 3; fence; halt; jump 4; fence; halt": "jump 1; fence; halt", "fence; jump 2; fence; zero 0 1; halt": "fence; fence; zero 0 1; halt",
		"fence; jump 2; jump 3; fence; loop 0 1; jump 1": "fence; fence; loop 0 1; jump 1", "jump 2; halt; jump 3; jump 4; release 0; jump 2": "jump 1; release 0; jump 1", "zero 0 1; jump 2; jump 3; zero 0 2; halt": "zero 0 1; zero 0 1; halt",
		// Targets behind and in front of what is removed.
		"zero 0 4; jump 2; fence; jump 0; halt": "zero 0 3; fence; jump 0; halt", "fence; zero 0 3; jump 0; jump 4; zero 0 1; halt": "fence; zero 0 3; jump 0; zero 0 1; halt",
	} {
		if want == "" {
			want = list
		}
		c := codeIn(t, "LH/L", list)
		if got, ok := impl.TrimCode(c); !ok || !reflect.DeepEqual(got, codeIn(t, "LH/L", want)) {
			t.Errorf("TrimCode of %s = %q, %v, want %s", list, plainCodeText(got), ok, want)
		}
		numbers := source(len(list))
		checkOptimizedRuns(t, c, checkOptimized(t, c), &numbers, 10)
	}
}

func TestTrimmedCodeAtTheLimit(t *testing.T) {
	last := func(size int) []impl.Instr {
		return append(slices.Repeat([]impl.Instr{instr(impl.OpFence)}, size-1), instr(impl.OpHalt))
	}
	for _, size := range []int{2, 3, 57, 399, 400} {
		// Only the first and the last one can be reached, or all can.
		far := last(size)
		far[0] = instr(impl.OpJump, size-1)
		want := []impl.Instr{instr(impl.OpJump, 1), instr(impl.OpHalt)}
		if size == 2 {
			want = want[1:]
		}
		if got, ok := impl.TrimCode(codeOf("L/", far...)); !ok || !slices.Equal(got.List, want) {
			t.Errorf("TrimCode of a jump over %d instructions = %q, %v", size-2, plainCodeText(got), ok)
		}
		if got, ok := impl.TrimCode(codeOf("L/", last(size)...)); !ok || !slices.Equal(got.List, last(size)) {
			t.Errorf("TrimCode of %d instructions that are needed = %q, %v", size, plainCodeText(got), ok)
		}
		// All jump to the next one, or all but those with an even number.
		near, mixed := last(size), last(size)
		for at := range size - 1 {
			near[at] = instr(impl.OpJump, at+1)
			if at%2 == 1 {
				mixed[at] = near[at]
			}
		}
		if got, ok := impl.TrimCode(codeOf("L/", near...)); !ok || !slices.Equal(got.List, last(1)) {
			t.Errorf("TrimCode of %d jumps to the next instruction = %q, %v", size-1, plainCodeText(got), ok)
		}
		if got, ok := impl.TrimCode(codeOf("L/", mixed...)); !ok || !slices.Equal(got.List, last(size/2+1)) {
			t.Errorf("TrimCode of every second jump of %d = %q, %v", size, plainCodeText(got), ok)
		}
		for _, list := range [][]impl.Instr{far, near, mixed, last(size)} {
			checkOptimized(t, codeOf("L/", list...))
		}
	}
}

func TestOptimizedCode(t *testing.T) {
	for _, row := range []struct {
		list, want string
		rounds     int
	}{
		// No round changes anything.
		{"halt", "halt", 0}, {everyOperation, everyOperation, 0}, {"jump 0", "jump 0", 0}, {"zero 0 2; halt; fence; halt", "zero 0 2; halt; fence; halt", 0}, {"zero 0 1; loop 0 2; halt", "zero 0 1; loop 0 2; halt", 0}, {"zero 0 2; halt; jump 2", "zero 0 2; halt; jump 2", 0},
		{"zero 0 3; fence; jump 4; release 0; halt", "zero 0 3; fence; jump 4; release 0; halt", 0},
		// One round does.
		{"jump 1; halt", "halt", 1}, {"halt; halt", "halt", 1}, {"jump 2; fence; jump 1", "fence; jump 0", 1}, {"jump 3; fence; halt; jump 1", "fence; halt", 1}, {"zero 0 3; halt; fence; jump 1", "zero 0 1; halt", 1}, {"zero 0 3; const 0 1; jump 3; put 0 0; halt", "zero 0 2; const 0 1; put 0 0; halt", 1},
		{"jump 1; jump 0", "jump 0", 1}, {"jump 1; fence; jump 0", "fence; jump 0", 1},
		// Several do.
		{"jump 2; halt; jump 3; halt", "halt", 2}, {"jump 2; fence; halt", "halt", 2}, {"zero 0 2; fence; jump 4; halt; halt", "zero 0 2; fence; halt", 2}, {"jump 3; fence; halt; jump 2", "halt", 2}, {"zero 0 2; jump 3; jump 3; jump 1", "zero 0 1; jump 1", 2},
		{"get 0 0; zero 0 4; jump 5; fence; jump 6; jump 6; put 0 0; halt", "get 0 0; zero 0 2; put 0 0; halt", 2},
		{"zero 0 3; fence; jump 5; jump 4; jump 5; halt", "zero 0 2; fence; halt", 2}, {"zero 0 4; zero 0 5; fence; jump 6; jump 6; jump 6; jump 3", "zero 0 3; zero 0 3; fence; jump 3", 3},
	} {
		c := codeIn(t, "LH/L", row.list)
		plain, rounds := plainlyOptimized(c)
		got, ok := impl.OptimizeCode(c)
		if want := codeIn(t, "LH/L", row.want); !ok || !reflect.DeepEqual(got, want) || !reflect.DeepEqual(plain.List, want.List) || rounds != row.rounds {
			t.Errorf("OptimizeCode of %s = %q, %v, want %s after %d rounds, and the plain form is %q after %d", row.list, plainCodeText(got), ok, row.want, row.rounds, plainCodeText(plain), rounds)
		}
		numbers := source(len(row.list))
		checkOptimizedRuns(t, c, checkOptimized(t, c), &numbers, 10)
	}
}

// ringCode returns code in which each of many branches enters a cycle of jumps at another place, so that a round removes only the last of these.
func ringCode(branches int) impl.Code {
	var list []impl.Instr
	for at := range branches {
		list = append(list, instr(impl.OpZero, 0, branches+at))
	}
	last := 2 * branches
	list = append(list, slices.Repeat([]impl.Instr{instr(impl.OpJump, last)}, branches)...)
	return codeOf("L/", append(list, instr(impl.OpJump, branches))...)
}

func TestOptimizedCodeAfterManyRounds(t *testing.T) {
	for _, branches := range []int{1, 2, 3, 10, 50, 199} {
		c := ringCode(branches)
		want := codeOf("L/", append(slices.Repeat([]impl.Instr{instr(impl.OpZero, 0, branches)}, branches), instr(impl.OpJump, branches))...)
		plain, rounds := plainlyOptimized(c)
		if got, ok := impl.OptimizeCode(c); !ok || !impl.CodeSame(got, want) || !impl.CodeSame(plain, want) || rounds != branches {
			t.Errorf("OptimizeCode of %d branches into a ring = %q, %v, and the plain form is %q after %d rounds", branches, plainCodeText(got), ok, plainCodeText(plain), rounds)
		}
	}
}

func TestInvalidCodeIsNotOptimized(t *testing.T) {
	codes := invalidCodes()
	for op := impl.OpConst; op <= impl.OpHalt; op++ {
		for i := range 4 {
			c := withInstr("LH/LH", 5, 2, leastInstr(op))
			*fieldOf(&c.List[2], i) = -1
			codes[opTable[op].name+" with -1 as field "+strconv.Itoa(i)] = c
			// What cannot be reached must be valid, too.
			c = withInstr("LH/LH", 5, 3, leastInstr(op))
			*fieldOf(&c.List[3], i) = 1 << 32
			c.List[0] = instr(impl.OpHalt)
			codes[opTable[op].name+" that cannot be reached, field "+strconv.Itoa(i)] = c
		}
	}
	codes["a jump past the end that cannot be reached"] = codeOf("L/", instr(impl.OpHalt), instr(impl.OpJump, 3), instr(impl.OpHalt))
	codes["an end that cannot be reached"] = codeOf("L/", instr(impl.OpHalt), instr(impl.OpFence))
	codes["401 instructions of which one can be reached"] = withInstr("L/", 401, 0, instr(impl.OpHalt))
	codes["very many"] = withInstr("L/", veryDeep, 0, instr(impl.OpHalt))
	for what, c := range codes {
		if got := impl.ReachableCode(c); len(got) != 0 {
			t.Errorf("%s: ReachableCode = %v", what, got)
		}
		for _, optimizer := range optimizers {
			if got, ok := optimizer.apply(c); ok || !isZeroCode(got) {
				t.Errorf("%s: %s = %v, %v", what, optimizer.name, got, ok)
			}
		}
	}
}

// smallInstrs returns the instructions without effect on the memory that code with size instructions may have.
func smallInstrs(size int) []impl.Instr {
	list := []impl.Instr{instr(impl.OpHalt)}
	for target := range size {
		list = append(list, instr(impl.OpJump, target))
	}
	// Those so far may be the last.
	list = append(list, instr(impl.OpFence))
	for target := range size {
		list = append(list, instr(impl.OpZero, 0, target), instr(impl.OpLoop, 1, target))
	}
	return list
}

func TestAllSmallCodes(t *testing.T) {
	for size := 1; size <= 4; size++ {
		choices, count := smallInstrs(size), 0
		c := codeOf("L/", make([]impl.Instr, size)...)
		var fill func(at int)
		fill = func(at int) {
			if at == size {
				count++
				results := checkOptimized(t, c)
				if size < 4 {
					checkOptimizedRun(t, c, results, memoryIn("7"))
				}
				return
			}
			for _, in := range choices {
				if at == size-1 && in.Op != impl.OpHalt && in.Op != impl.OpJump {
					break
				}
				c.List[at] = in
				fill(at + 1)
			}
		}
		fill(0)
		if want := []int{0, 2, 24, 484, 13720}[size]; count != want {
			t.Errorf("%d codes with %d instructions were tried, want %d", count, size, want)
		}
	}
}

// manyJumps returns valid code of which more instructions are jumps, branches and halts.
func (s *source) manyJumps(size int) impl.Code {
	c := s.someCode(size)
	for at := range len(c.List) - 1 {
		if s.below(3) == 0 {
			c.List[at] = s.someInstr(c, at, []int{impl.OpJump, impl.OpJump, impl.OpZero, impl.OpLoop, impl.OpHalt}[s.below(5)])
		}
		if s.below(8) == 0 {
			c.List[at] = instr(impl.OpJump, at+1)
		}
		if s.below(8) == 0 {
			c.List[at] = instr(impl.OpJump, s.below(len(c.List)))
		}
	}
	return c
}

func TestManyOptimizedCodes(t *testing.T) {
	numbers := source(83)
	seen := map[string]int{}
	for i := range 3000 {
		c := numbers.someCode(30)
		if i%2 == 0 {
			c = numbers.manyJumps(30)
		}
		results := checkOptimized(t, c)
		for k, result := range results {
			if !impl.CodeSame(result, c) {
				seen[optimizers[k].name]++
			}
		}
		if _, rounds := plainlyOptimized(c); rounds > 1 {
			seen["several rounds"]++
		}
		equal, halted := checkOptimizedRuns(t, c, results, &numbers, 6)
		seen["equal"] += equal
		seen["halted"] += halted
	}
	for what, least := range map[string]int{"ThreadJumps": 500, "TrimCode": 1500, "OptimizeCode": 1500, "several rounds": 300, "equal": 3000, "halted": 6000} {
		if seen[what] < least {
			t.Errorf("%s was seen only %d times", what, seen[what])
		}
	}
}

func TestOptimizedLoops(t *testing.T) {
	// Counters and conditions are from the memory, so that traces differ.
	for list, groups := range map[string]int{
		"get 0 0; get 1 1; jump 4; halt; jump 5; bin 1 4 1 0; loop 0 8; jump 9; jump 5; jump 10; put 1 1; halt":                            256,
		"get 0 0; zero 0 3; jump 5; jump 6; fence; jump 7; jump 8; load 0 0 0; jump 9; put 1 0; halt":                                      5,
		"get 0 0; const 1 3; bin 0 7 0 1; zero 0 6; jump 5; loop 0 4; jump 8; fence; store 0 0 1; halt":                                    4,
		"get 0 0; release 0; jump 4; halt; jump 5; jump 6; halt":                                                                           256,
		"get 0 0; jump 3; halt; zero 0 6; zero 1 5; jump 6; jump 7; jump 2":                                                                2,
		"get 0 0; const 1 1; bin 0 7 0 1; zero 0 5; jump 6; jump 7; jump 7; const 2 3; jump 11; get 3 1; put 1 3; get 4 1; loop 2 8; halt": 2,
	} {
		c := codeIn(t, "LH/L", list)
		results := checkOptimized(t, c)
		traces, classes := map[string][]string{}, map[string]bool{}
		for a := range 256 {
			trace, others, halts := checkOptimizedRun(t, c, results, impl.Memory{Vals: []int{a, 3}, Arrays: [][]int{{1, 2, 3, 4}}})
			if before, found := traces[trace]; !halts || found && !slices.Equal(before, others) {
				t.Errorf("%s has the trace %s, but what it becomes has %v and %v", list, trace, before, others)
			}
			traces[trace], classes[strings.Join(others, ", ")] = others, true
		}
		if len(traces) != groups || len(classes) > groups {
			t.Errorf("%s has %d traces and what it becomes has %d, want %d", list, len(traces), len(classes), groups)
		}
	}
}

func TestBranchesToAJumpBehindThem(t *testing.T) {
	// Each target is replaced, by the document's text, also where this shows which way a branch went.
	for _, branch := range []string{"zero", "loop"} {
		checkOptimizeRow(t, optimizeRow{
			"get 0 0; " + branch + " 0 2; jump 4; put 0 0; get 1 1; zero 1 3; halt", "1111111",
			"get 0 0; " + branch + " 0 4; jump 4; put 0 0; get 1 1; zero 1 3; halt", "", "get 0 0; " + branch + " 0 4; jump 4; put 0 0; get 1 1; zero 1 3; halt",
		})
		checkOptimizeRow(t, optimizeRow{"get 0 0; " + branch + " 0 2; jump 3; halt", "1111", "get 0 0; " + branch + " 0 3; jump 3; halt", "get 0 0; " + branch + " 0 2; halt", "get 0 0; " + branch + " 0 2; halt"})
		checkOptimizeRow(t, optimizeRow{"get 0 0; " + branch + " 0 2; fence; jump 4; halt", "11111", "", "get 0 0; " + branch + " 0 2; fence; halt", "get 0 0; " + branch + " 0 2; fence; halt"})
	}
	// There is no such branch in compiled code.
	numbers := source(86)
	for range 300 {
		if c, _ := impl.CompileProgram(numbers.deepProgram(4)); hidesBranches(c) {
			t.Errorf("%q hides a branch", plainCodeText(c))
		}
	}
}

func TestOptimizedCompiledPrograms(t *testing.T) {
	for text, want := range map[string]string{
		"L//": "halt", "L//a:=(a+1);": "get 0 0; const 1 1; bin 0 4 0 1; put 0 0; halt", "L//ifa{}{}": "get 0 0; zero 0 2; halt", "L//ifa{a:=1;}{}": "get 0 0; zero 0 4; const 0 1; put 0 0; halt", "L//ifa{}{a:=1;}": "get 0 0; zero 0 3; jump 5; const 0 1; put 0 0; halt",
		"L//ifa{a:=1;}{a:=2;}": "get 0 0; zero 0 5; const 0 1; put 0 0; jump 7; const 0 2; put 0 0; halt", "L//repeat2{ifa{}{}}": "const 9 2; get 0 0; zero 0 3; loop 9 1; halt", "L//repeat3{}": "const 9 3; loop 9 1; halt",
		"L//ifa{ifa{ifa{a:=1;}{}}{}}{}": "get 0 0; zero 0 8; get 0 0; zero 0 8; get 0 0; zero 0 8; const 0 1; put 0 0; halt", "L//ifa{ifa{}{}}{ifa{}{}}": "get 0 0; zero 0 5; get 0 0; zero 0 7; jump 7; get 0 0; zero 0 7; halt",
		"L//ifa{ifa{a:=1;}{}}{a:=2;}": "get 0 0; zero 0 7; get 0 0; zero 0 9; const 0 1; put 0 0; jump 9; const 0 2; put 0 0; halt",
	} {
		c, _ := impl.CompileProgram(parsed(t, text))
		if got, ok := impl.OptimizeCode(c); !ok || !reflect.DeepEqual(got.List, codeIn(t, "L/", want).List) {
			t.Errorf("OptimizeCode of the code of %s = %q, %v, want %s", text, plainCodeText(got), ok, want)
		}
		checkOptimized(t, c)
	}
}

func TestManyOptimizedCompiledPrograms(t *testing.T) {
	numbers := source(84)
	changed, equal := 0, 0
	for i := range 1000 {
		p := numbers.deepProgram(6)
		if i%2 == 0 {
			p = numbers.foldableProgram(6)
		}
		c, ok := impl.CompileProgram(p)
		if !ok {
			continue
		}
		results := checkOptimized(t, c)
		if !impl.CodeSame(c, results[2]) {
			changed++
		}
		// The trace of the optimized code depends only on that of the program.
		traces := map[string]string{}
		for range 6 {
			m := numbers.someMemory(p)
			trace, steps := checkCompiledRun(t, p, results[2], m)
			if _, _, halts := checkOptimizedRun(t, c, results, m); !halts {
				t.Errorf("the code of %q does not halt", impl.FormatProgram(p))
			}
			if before, found := traces[trace]; found && before != steps {
				t.Errorf("%q has the trace %s, but its optimized code has %s and %s", impl.FormatProgram(p), trace, before, steps)
			} else if found {
				equal++
			}
			traces[trace] = steps
		}
	}
	if changed < 300 || equal < 1000 {
		t.Errorf("only %d codes that change and %d equal traces were tried", changed, equal)
	}
}

func TestSecureCodeStaysSecure(t *testing.T) {
	numbers := source(85)
	tried := 0
	for range 1500 {
		p := numbers.someSecretProgram(6)
		q, linear := impl.Linearize(p)
		if !linear {
			continue
		}
		q, _ = impl.FoldProgram(q)
		c, compiled := impl.CompileProgram(q)
		best, ok := impl.OptimizeCode(c)
		if !compiled || !ok {
			continue
		}
		tried++
		checkSecureRun(t, p, best, &numbers)
	}
	if tried < 400 {
		t.Errorf("only %d codes were tried", tried)
	}
}

// optimizeText is a program that FoldProgram changes in every way, and keeps something of in every way.
const optimizeText = "LHL/HH/a:=((c+0)*(2-1));if1{P[c]:=(b?a:(0^Q[3]));b!=(1*b);}{a:=1;}repeat1{ifb{repeat2{}}{c:=(0?P[0]:a);}}repeat3{if0{}{Q[1]:=(1?b:c);repeat2{b:=(b-0);}}}repeat2{if0{a:=1;}{}}P[a]:=1;"

func TestFoldingKeepsArguments(t *testing.T) {
	for _, text := range []string{optimizeText, compileText, linearText, "L//", "LHUX/LL/"} {
		p := roomy(parsed(t, text))
		kept := clonedProgram(p)
		impl.FoldProgram(p)
		for _, s := range p.Body {
			impl.FoldExpr(p, s.Value)
			impl.FoldExpr(p, s.Index)
		}
		if !reflect.DeepEqual(p, kept) || impl.FormatProgram(p) != text {
			t.Errorf("a function changed its argument %q to %q", text, impl.FormatProgram(p))
		}
		if !isRoomKept(p) {
			t.Error("a function changed what is beyond its argument")
		}
	}
}

func TestFoldedProgramsShareNoMemory(t *testing.T) {
	for _, text := range []string{optimizeText, compileText, linearText, "L//", "LHUX/LL/", "L//repeat2{}", "L//if1{repeat1{a:=1;a:=2;a:=3;}}{}"} {
		p := roomy(parsed(t, text))
		first, ok := impl.FoldProgram(p)
		second, okSecond := impl.FoldProgram(p)
		used := map[any]bool{}
		memoryUsed(p, used)
		if !ok || !okSecond || !memoryUsed(first, used) || !memoryUsed(second, used) {
			t.Errorf("a result of FoldProgram for %q shares memory with another result, with an argument or with itself", text)
		}
		want := impl.FormatProgram(second)
		overwriteProgram(first)
		if third, _ := impl.FoldProgram(p); impl.FormatProgram(second) != want || impl.FormatProgram(third) != want || impl.FormatProgram(p) != text {
			t.Errorf("a result of FoldProgram for %q shares memory, or FoldProgram keeps state", text)
		}
		if overwriteProgram(p); impl.FormatProgram(second) != want {
			t.Errorf("a result of FoldProgram for %q shares memory with an argument", text)
		}
	}
}

func TestFoldedExpressionsShareNoMemory(t *testing.T) {
	for _, text := range []string{"7", "b", "P[b]", "(a+b)", "(a+0)", "(0+P[b])", "(1?(a+b):c)", "(0?(a+b):(b+P[a]))", "(0?(a+b):(b?c:a))", "(1?P[a]:(0+P[b]))", "((a+0)*((b-c)*1))", "(((1+2)+a)+(b*(2<3)))"} {
		p := roomy(parsed(t, "LHU/HX/a:="+text+";"))
		e := p.Body[0].Value
		inProgram := func(e impl.Expr) impl.Program { return impl.Program{Body: []impl.Stmt{assign(0, e)}} }
		first, ok := impl.FoldExpr(p, e)
		second, okSecond := impl.FoldExpr(p, e)
		used := map[any]bool{}
		memoryUsed(p, used)
		if !ok || !okSecond || !memoryUsed(inProgram(first), used) || !memoryUsed(inProgram(second), used) {
			t.Errorf("a result of FoldExpr for %s shares memory with another result, with an argument or with itself", text)
		}
		want := impl.FormatExpr(p, second)
		overwriteExpr(&first)
		if third, _ := impl.FoldExpr(p, e); impl.FormatExpr(p, second) != want || impl.FormatExpr(p, third) != want || impl.FormatExpr(p, e) != text {
			t.Errorf("a result of FoldExpr for %s shares memory, or FoldExpr keeps state", text)
		}
		if overwriteExpr(&e); impl.FormatExpr(p, second) != want {
			t.Errorf("a result of FoldExpr for %s shares memory with an argument", text)
		}
	}
}

func TestFoldingWithOneSlice(t *testing.T) {
	labels := []int{0, 1, 2, 3}
	operands := []impl.Expr{variable(0), constant(0), variable(1), constant(1)}
	e := operation(impl.ExprAdd, operation(impl.ExprSub, operands[:2]...), operation(impl.ExprMul, operands[2:]...))
	body := []impl.Stmt{assign(1, e), storeTo(0, variable(0), e), repeat(2), assign(0, operation(impl.ExprXor, operands[1:3]...))}
	p := impl.Program{Vars: labels[:2], Arrays: labels[1:3], Body: []impl.Stmt{ifElse(e, body, body[:3]), repeat(2, body[1:]...), repeat(1, body...), ifElse(constant(0), body, body)}}
	same := parsed(t, impl.FormatProgram(p))
	q := checkFoldedProgram(t, p, plainlyFolded(same.Body))
	used := map[any]bool{}
	memoryUsed(p, used)
	if !memoryUsed(q, used) || numbersText(labels) != "0 1 2 3" || !equalPrograms(p, same) {
		t.Errorf("FoldProgram = %q, and the argument is %q", impl.FormatProgram(q), impl.FormatProgram(p))
	}
}

func TestOptimizerKeepsArguments(t *testing.T) {
	for _, list := range []string{everyOperation, "halt", "jump 0", "jump 2; halt; jump 3; jump 4; zero 0 2; loop 0 3; jump 1", "zero 0 3; halt; fence; jump 2; halt"} {
		c := spareCode(codeIn(t, "LH/L", list))
		kept := clonedCode(c)
		impl.ReachableCode(c)
		for _, optimizer := range optimizers {
			if optimizer.apply(c); !reflect.DeepEqual(c, kept) || !isSpareCodeKept(c) {
				t.Errorf("%s changed its argument %s to %q, or what is beyond it", optimizer.name, list, plainCodeText(c))
			}
		}
	}
}

// checkOwnCode checks that the results of a function that changes code share no memory with each other or with its argument, and that the labels of the code may overlap.
func checkOwnCode(t *testing.T, what string, apply func(c impl.Code) (impl.Code, bool), list string) {
	t.Helper()
	listText := func(list []impl.Instr) string { return plainCodeText(impl.Code{List: list}) }
	c := spareCode(codeIn(t, "LH/L", list))
	call := func() []impl.Instr { result, _ := apply(c); return result.List }
	first, _ := apply(c)
	second, _ := apply(c)
	used := map[*int]bool{}
	numbersUsed(used, c.Vars, c.Arrays)
	if !numbersUsed(used, first.Vars, first.Arrays) || !numbersUsed(used, second.Vars, second.Arrays) {
		t.Errorf("a result of %s for %s shares labels", what, list)
	}
	checkAlone(t, what, call, listText, instr(impl.OpFence))
	want := plainCodeText(second)
	for i := range c.List[:cap(c.List)] {
		c.List[:cap(c.List)][i] = instr(impl.OpFence)
	}
	if plainCodeText(second) != want {
		t.Errorf("a result of %s for %s shares memory with its argument", what, list)
	}
	labels := []int{0, 1, 2, 3}
	both := impl.Code{Vars: labels, Arrays: labels[1:3], List: codeIn(t, "LH/L", list).List}
	if got, ok := apply(both); !ok || !numbersUsed(map[*int]bool{}, got.Vars, got.Arrays) || numbersText(labels) != "0 1 2 3" || !slices.Equal(got.Vars, labels) || !slices.Equal(got.Arrays, labels[1:3]) {
		t.Errorf("%s of %s = %v, %v, and the labels are %v", what, list, got, ok, labels)
	}
}

func TestOptimizerResultsShareNoMemory(t *testing.T) {
	for _, list := range []string{everyOperation, "halt", "jump 0", "jump 2; halt; jump 3; jump 4; zero 0 2; loop 0 3; jump 1", "zero 0 3; halt; fence; jump 2; halt", "jump 1; jump 2; halt", "jump 1; halt"} {
		for _, optimizer := range optimizers {
			checkOwnCode(t, optimizer.name, optimizer.apply, list)
		}
		c := codeIn(t, "LH/L", list)
		checkAlone(t, "ReachableCode", func() []bool { return impl.ReachableCode(c) }, marks, false)
	}
}

func TestOptimizerAtTheSameTime(t *testing.T) {
	p := parsed(t, optimizeText)
	c, _ := impl.CompileProgram(p)
	q, _ := impl.FoldProgram(p)
	best, _ := impl.OptimizeCode(c)
	want, wantCode, wantReach := impl.FormatProgram(q), plainCodeText(best), marks(impl.ReachableCode(c))
	var group sync.WaitGroup
	for range 8 {
		group.Go(func() {
			for range 100 {
				q, ok := impl.FoldProgram(p)
				best, okCode := impl.OptimizeCode(c)
				e, okExpr := impl.FoldExpr(p, p.Body[0].Value)
				if !ok || !okCode || !okExpr || impl.FormatProgram(q) != want || plainCodeText(best) != wantCode || marks(impl.ReachableCode(c)) != wantReach || impl.FormatExpr(p, e) != "c" {
					t.Errorf("FoldProgram = %q and OptimizeCode = %q", impl.FormatProgram(q), plainCodeText(best))
				}
			}
		})
	}
	group.Wait()
}
