package tests

import (
	"math"
	"reflect"
	"slices"
	"strconv"
	"strings"
	"sync"
	"testing"

	"loop.example/constanttime/impl"
)

// line writes an instruction.
func line(name string, fields ...int) string { return name + " " + numbersText(fields) }

// plainExpr writes the instructions of an expression into register n, by the document's text.
func plainExpr(e impl.Expr, n int) []string {
	var lines []string
	for i, kid := range e.Kids {
		lines = append(lines, plainExpr(kid, n+i)...)
	}
	switch e.Kind {
	case impl.ExprConst:
		return append(lines, line("const", n, e.Value))
	case impl.ExprVar:
		return append(lines, line("get", n, e.Value))
	case impl.ExprRead:
		return append(lines, line("load", n, e.Value, n))
	case impl.ExprSelect:
		return append(lines, line("select", n, n, n+1, n+2))
	}
	return append(lines, line("bin", n, e.Kind, n, n+1))
}

// sizeOf returns how many instructions the code of some statements has.
func sizeOf(list []impl.Stmt) int {
	size := 0
	for _, s := range list {
		more := map[int]int{impl.StmtAssign: 1, impl.StmtRelease: 2, impl.StmtStore: 2, impl.StmtIf: 2, impl.StmtRepeat: 2}[s.Kind]
		if s.Kind != impl.StmtRepeat {
			more += len(plainExpr(s.Value, 0))
		}
		size += more + sizeOf(s.Body) + sizeOf(s.Else)
	}
	return size
}

// plainCode has lines of code and the number of the statement of each. Targets are known before what is in front of them is written, from the sizes.
type plainCode struct {
	lines []string
	from  []int
}

func (c *plainCode) add(number int, lines ...string) {
	for _, text := range lines {
		c.lines, c.from = append(c.lines, text), append(c.from, number)
	}
}

// block adds the code of statements of which the first has the number next and that are in level others, and returns the number behind them.
func (c *plainCode) block(list []impl.Stmt, next int, level int) int {
	for _, s := range list {
		number, at := next, len(c.lines)
		next++
		if s.Kind == impl.StmtRepeat {
			c.add(number, line("const", 9+level, s.Count))
			next = c.block(s.Body, next, level+1)
			c.add(number, line("loop", 9+level, at+1))
			continue
		}
		c.add(number, plainExpr(s.Value, 0)...)
		switch s.Kind {
		case impl.StmtAssign:
			c.add(number, line("put", s.Target, 0))
		case impl.StmtRelease:
			c.add(number, "release 0", line("put", s.Target, 0))
		case impl.StmtStore:
			c.add(number, plainExpr(s.Index, 1)...)
			c.add(number, line("store", s.Target, 1, 0))
		case impl.StmtIf:
			end := at + sizeOf([]impl.Stmt{s})
			c.add(number, line("zero", 0, end-sizeOf(s.Else)))
			next = c.block(s.Body, next, level+1)
			c.add(number, line("jump", end))
			next = c.block(s.Else, next, level+1)
		}
	}
	return next
}

// plainlyCompiled returns what CompileProgram and CompileMap must return for a valid program, if its code is not too long: the code in the form of codeIn.
func plainlyCompiled(p impl.Program) (string, []int) {
	var c plainCode
	c.block(p.Body, 0, 0)
	c.add(-1, "halt")
	return strings.Join(c.lines, "; "), c.from
}

// declarationsOf writes what a program declares, as code does.
func declarationsOf(p impl.Program) string {
	return impl.FormatLabels(p.Vars) + "/" + impl.FormatLabels(p.Arrays)
}

// plainlyProjected returns the reads, writes and releases of a trace.
func plainlyProjected(list []impl.Event) []impl.Event {
	return slices.DeleteFunc(slices.Clone(list), func(event impl.Event) bool { return event.Kind < 2 || event.Kind > 4 })
}

// checkCompiledCode checks what CompileProgram and CompileMap return for a program, and returns the code.
func checkCompiledCode(t *testing.T, p impl.Program, list string, from []int) impl.Code {
	t.Helper()
	text := impl.FormatProgram(p)
	want := codeIn(t, declarationsOf(p), list)
	c, ok := impl.CompileProgram(p)
	if !ok || !reflect.DeepEqual(c.List, want.List) || !equalLists(c.Vars, p.Vars) || !equalLists(c.Arrays, p.Arrays) || !impl.CodeValid(c) {
		t.Errorf("CompileProgram of %q = %q, %v, want %q", text, plainCodeText(c), ok, plainCodeText(want))
	}
	numbers, ok := impl.CompileMap(p)
	if !ok || !slices.Equal(numbers, from) {
		t.Errorf("CompileMap of %q = %v, %v, want %v", text, numbers, ok, from)
	}
	return c
}

// checkCompiledRun checks promise 7 for a program, its code and some memory, and returns the traces of both.
func checkCompiledRun(t *testing.T, p impl.Program, c impl.Code, m impl.Memory) (string, string) {
	t.Helper()
	want, events, ran := impl.RunProgram(p, m)
	out, steps, ok := impl.RunCode(c, m)
	if !ran || !ok || memoryText(out) != memoryText(want) {
		t.Errorf("%q makes %s of %s, %v, and its code makes %s of it, %v", impl.FormatProgram(p), memoryText(want), memoryText(m), ran, memoryText(out), ok)
	}
	projected := plainTrace(impl.ProjectTrace(steps))
	if projected != plainTrace(plainlyProjected(events)) || projected != plainTrace(plainlyProjected(steps)) || plainTrace(impl.ProjectTrace(events)) != projected {
		t.Errorf("%q has the trace %s with %s, and its code has the trace %s, of which %s is left", impl.FormatProgram(p), plainTrace(events), memoryText(m), plainTrace(steps), projected)
	}
	return plainTrace(events), plainTrace(steps)
}

// checkCompiled checks the code and the numbers of a program, in the forms of codeIn and numbersIn, and what the code does.
func checkCompiled(t *testing.T, text string, list string, from string) {
	t.Helper()
	p := parsed(t, text)
	c := checkCompiledCode(t, p, list, numbersIn(from))
	if plain, numbers := plainlyCompiled(p); plain != list || numbersText(numbers) != from {
		t.Errorf("the plain code of %q is %s with %v, want %s with %s", text, plain, numbers, list, from)
	}
	numbers := source(len(text))
	for range 30 {
		checkCompiledRun(t, p, c, numbers.someMemory(p))
	}
}

// checkNotCompiled checks the results of all functions for a program that has no code.
func checkNotCompiled(t *testing.T, what string, p impl.Program) {
	t.Helper()
	if c, ok := impl.CompileProgram(p); ok || !isZeroCode(c) {
		t.Errorf("%s: CompileProgram = %v, %v", what, c, ok)
	}
	if from, ok := impl.CompileMap(p); ok || len(from) != 0 {
		t.Errorf("%s: CompileMap = %v, %v", what, from, ok)
	}
}

// checkNotSecure checks that CompileSecure does not accept a program.
func checkNotSecure(t *testing.T, what string, p impl.Program) {
	t.Helper()
	if c, ok := impl.CompileSecure(p); ok || !isZeroCode(c) {
		t.Errorf("%s: CompileSecure = %v, %v", what, c, ok)
	}
}

// checkCompiledExpr checks the code of an expression, and that it computes the value into register 0 with the same reads.
func checkCompiledExpr(t *testing.T, p impl.Program, e impl.Expr, list string) {
	t.Helper()
	want := codeIn(t, declarationsOf(p), list+"; release 0; halt")
	size := len(want.List) - 2
	got, ok := impl.CompileExpr(p, e)
	if !ok || !slices.Equal(got, want.List[:size]) {
		t.Errorf("CompileExpr of %s = %v, %v, want %s", impl.FormatExpr(p, e), got, ok, list)
	}
	p.Body = nil
	numbers := source(len(list))
	for range 10 {
		m := numbers.someMemory(p)
		value, events, _ := impl.EvalExpr(p, m, e)
		events = append(events, impl.Event{Kind: impl.EventRelease, Value: value})
		_, steps, ok := impl.RunCode(want, m)
		if !ok || plainTrace(impl.ProjectTrace(steps)) != plainTrace(events) {
			t.Errorf("the code of %s has the trace %s with %s, and the expression has %s", impl.FormatExpr(p, e), plainTrace(steps), memoryText(m), plainTrace(events))
		}
	}
}

// checkNotCompiledExpr checks that CompileExpr does not accept an expression.
func checkNotCompiledExpr(t *testing.T, what string, p impl.Program, e impl.Expr) {
	t.Helper()
	if list, ok := impl.CompileExpr(p, e); ok || len(list) != 0 {
		t.Errorf("%s: CompileExpr = %v, %v", what, list, ok)
	}
}

func TestCodeOfExpressions(t *testing.T) {
	for text, list := range map[string]string{
		"0": "const 0 0", "7": "const 0 7", "255": "const 0 255", "a": "get 0 0", "c": "get 0 2",
		"P[2]": "const 0 2; load 0 0 0", "Q[255]": "const 0 255; load 0 1 0", "Q[b]": "get 0 1; load 0 1 0",
		"(a+1)": "get 0 0; const 1 1; bin 0 4 0 1", "(a-1)": "get 0 0; const 1 1; bin 0 5 0 1", "(2*c)": "const 0 2; get 1 2; bin 0 6 0 1",
		"(a&b)": "get 0 0; get 1 1; bin 0 7 0 1", "(a^b)": "get 0 0; get 1 1; bin 0 8 0 1", "(a=b)": "get 0 0; get 1 1; bin 0 9 0 1", "(b<a)": "get 0 1; get 1 0; bin 0 10 0 1",
		"(a?b:c)": "get 0 0; get 1 1; get 2 2; select 0 0 1 2",
		// Operands that have operands.
		"((a+b)*c)":        "get 0 0; get 1 1; bin 0 4 0 1; get 1 2; bin 0 6 0 1",
		"(a*(b+c))":        "get 0 0; get 1 1; get 2 2; bin 1 4 1 2; bin 0 6 0 1",
		"((a-b)<(c&1))":    "get 0 0; get 1 1; bin 0 5 0 1; get 1 2; const 2 1; bin 1 7 1 2; bin 0 10 0 1",
		"(P[a]^Q[b])":      "get 0 0; load 0 0 0; get 1 1; load 1 1 1; bin 0 8 0 1",
		"(a=P[3])":         "get 0 0; const 1 3; load 1 0 1; bin 0 9 0 1",
		"(Q[c]=a)":         "get 0 2; load 0 1 0; get 1 0; bin 0 9 0 1",
		"(P[a]?Q[b]:P[c])": "get 0 0; load 0 0 0; get 1 1; load 1 1 1; get 2 2; load 2 0 2; select 0 0 1 2",
		"((a+1)?(b-2):(c*3))": "get 0 0; const 1 1; bin 0 4 0 1; get 1 1; const 2 2; bin 1 5 1 2; get 2 2; const 3 3; bin 2 6 2 3; " +
			"select 0 0 1 2",
		// A selection within each operand of another one.
		"((a?b:c)?1:2)": "get 0 0; get 1 1; get 2 2; select 0 0 1 2; const 1 1; const 2 2; select 0 0 1 2",
		"(1?(a?b:c):2)": "const 0 1; get 1 0; get 2 1; get 3 2; select 1 1 2 3; const 2 2; select 0 0 1 2",
		"(1?2:(a?b:c))": "const 0 1; const 1 2; get 2 0; get 3 1; get 4 2; select 2 2 3 4; select 0 0 1 2",
		"((1?2:3)?(4?5:6):(7?8:9))": "const 0 1; const 1 2; const 2 3; select 0 0 1 2; const 1 4; const 2 5; const 3 6; select 1 1 2 3; " +
			"const 2 7; const 3 8; const 4 9; select 2 2 3 4; select 0 0 1 2",
		"(1+(a?2:b))": "const 0 1; get 1 0; const 2 2; get 3 1; select 1 1 2 3; bin 0 4 0 1",
	} {
		p := parsed(t, "LHU/HX/a:="+text+";")
		checkCompiledExpr(t, p, p.Body[0].Value, list)
	}
}

func TestCodeOfTheGreatestExpressions(t *testing.T) {
	for text, list := range map[string]string{
		"((((1+2)+3)+4)+5)": "const 0 1; const 1 2; bin 0 4 0 1; const 1 3; bin 0 4 0 1; const 1 4; bin 0 4 0 1; const 1 5; bin 0 4 0 1",
		"(1+(2+(3+(4+5))))": "const 0 1; const 1 2; const 2 3; const 3 4; const 4 5; bin 3 4 3 4; bin 2 4 2 3; bin 1 4 1 2; bin 0 4 0 1",
		"(1+(2+(3+Q[c])))":  "const 0 1; const 1 2; const 2 3; get 3 2; load 3 1 3; bin 2 4 2 3; bin 1 4 1 2; bin 0 4 0 1",
		"(1?2:(3?4:(5?6:(7?8:9))))": "const 0 1; const 1 2; const 2 3; const 3 4; const 4 5; const 5 6; const 6 7; const 7 8; const 8 9; " +
			"select 6 6 7 8; select 4 4 5 6; select 2 2 3 4; select 0 0 1 2",
		"((((1?2:3)?4:5)?6:7)?8:9)": "const 0 1; const 1 2; const 2 3; select 0 0 1 2; const 1 4; const 2 5; select 0 0 1 2; " +
			"const 1 6; const 2 7; select 0 0 1 2; const 1 8; const 2 9; select 0 0 1 2",
		"(((1+2)+(3+4))+((5+6)+(7+8)))": "const 0 1; const 1 2; bin 0 4 0 1; const 1 3; const 2 4; bin 1 4 1 2; bin 0 4 0 1; " +
			"const 1 5; const 2 6; bin 1 4 1 2; const 2 7; const 3 8; bin 2 4 2 3; bin 1 4 1 2; bin 0 4 0 1",
	} {
		p := parsed(t, "LHU/HX/a:="+text+";")
		checkCompiledExpr(t, p, p.Body[0].Value, list)
	}
	p := widest()
	largest := operation(impl.ExprSelect, constant(1), constant(2), operation(impl.ExprSelect, constant(3), constant(4), operation(impl.ExprSelect, constant(5), read(1, variable(11)), operation(impl.ExprSelect, read(0, constant(6)), constant(7), constant(8)))))
	checkNotCompiledExpr(t, "depth 6 by a read", p, largest)
	largest.Kids[2].Kids[2].Kids[2].Kids[0] = variable(10)
	checkCompiledExpr(t, p, largest, strings.Join(plainExpr(largest, 0), "; "))
	largest.Kids[0] = read(0, constant(9))
	checkCompiledExpr(t, p, largest, strings.Join(plainExpr(largest, 0), "; "))
	largest.Kids[1] = read(0, constant(9))
	checkNotCompiledExpr(t, "16 nodes", p, largest)
}

func TestInvalidExpressionsAreNotCompiled(t *testing.T) {
	p := parsed(t, "LH/L/")
	for what, e := range invalidExprs() {
		checkNotCompiledExpr(t, what, p, e)
		checkNotCompiled(t, what, impl.Program{Vars: p.Vars, Arrays: p.Arrays, Body: []impl.Stmt{assign(0, constant(1)), assign(0, e)}})
		checkNotCompiled(t, what+" as an index", impl.Program{Vars: p.Vars, Arrays: p.Arrays, Body: []impl.Stmt{storeTo(0, e, constant(1))}})
		checkNotCompiled(t, what+" as a condition", impl.Program{Vars: p.Vars, Arrays: p.Arrays, Body: []impl.Stmt{ifElse(e, nil, nil)}})
	}
	// The operand of a read is a constant or a variable, wherever the read is.
	for _, index := range []impl.Expr{read(0, constant(0)), read(0, variable(1)), operation(impl.ExprAdd, variable(0), constant(1)), operation(impl.ExprSelect, constant(0), constant(1), constant(2))} {
		inner := read(0, index)
		for _, e := range []impl.Expr{inner, operation(impl.ExprSub, inner, constant(1)), operation(impl.ExprSub, constant(1), inner), operation(impl.ExprSelect, constant(1), constant(2), inner)} {
			checkNotCompiledExpr(t, "a read within a read", p, e)
		}
	}
	for what, q := range map[string]impl.Program{
		"nothing": {}, "no variables": {Arrays: []int{0}}, "13 variables": {Vars: make([]int, 13)}, "3 arrays": {Vars: []int{0}, Arrays: make([]int, 3)},
		"label 4": {Vars: []int{0, 4}}, "label -1": {Vars: []int{-1}}, "label 4 of an array": {Vars: []int{0}, Arrays: []int{4}}, "very many": {Vars: make([]int, veryDeep), Arrays: make([]int, veryDeep)},
	} {
		checkNotCompiledExpr(t, what, q, constant(1))
		checkNotCompiledExpr(t, what, q, variable(0))
	}
}

func TestCodeOfExpressionsIgnoresTheBody(t *testing.T) {
	p := parsed(t, "LH/L/")
	for _, body := range [][]impl.Stmt{{{}}, {assign(9, constant(300))}, {repeat(0)}, slices.Repeat([]impl.Stmt{assign(0, bushOf(15))}, 60), {deepStmt(1)}, {circularStmt(1)}} {
		p.Body = body
		if list, ok := impl.CompileExpr(p, read(0, variable(1))); !ok || !slices.Equal(list, []impl.Instr{instr(impl.OpGet, 0, 1), instr(impl.OpLoad, 0, 0, 0)}) {
			t.Errorf("the code of an expression depends on the Body: %v, %v", list, ok)
		}
	}
}

func TestCodeOfManyExpressions(t *testing.T) {
	numbers := source(70)
	deep, large := 0, 0
	for range 3000 {
		p := numbers.someProgram(12)
		e := numbers.someExpr(p, 5)
		if !impl.ExprValid(p, e) {
			checkNotCompiledExpr(t, "a large expression", p, e)
			large++
			continue
		}
		lines := plainExpr(e, 0)
		checkCompiledExpr(t, p, e, strings.Join(lines, "; "))
		if len(lines) > 9 {
			deep++
		}
	}
	if deep < 200 || large < 200 {
		t.Errorf("only %d expressions with many nodes and %d with too many were tried", deep, large)
	}
}

func TestCodeOfEveryKindOfStatement(t *testing.T) {
	checkCompiled(t, "L//", "halt", "-1")
	checkCompiled(t, "LHUXLHUXLHUX/XU/", "halt", "-1")
	checkCompiled(t, "LHUX//d:=c;", "get 0 2; put 3 0; halt", "0 0 -1")
	checkCompiled(t, "L//a!=3;", "const 0 3; release 0; put 0 0; halt", "0 0 0 -1")
	checkCompiled(t, "LL/LL/Q[b]:=(a-1);", "get 0 0; const 1 1; bin 0 5 0 1; get 1 1; store 1 1 0; halt", "0 0 0 0 0 -1")
	checkCompiled(t, "L/L/P[255]:=0;", "const 0 0; const 1 255; store 0 1 0; halt", "0 0 0 -1")
	checkCompiled(t, "LL//ifa{b:=1;}{b:=2;}", "get 0 0; zero 0 5; const 0 1; put 1 0; jump 7; const 0 2; put 1 0; halt", "0 0 1 1 0 2 2 -1")
	checkCompiled(t, "L//repeat3{a:=(a+1);}", "const 9 3; get 0 0; const 1 1; bin 0 4 0 1; put 0 0; loop 9 1; halt", "0 1 1 1 1 0 -1")
	checkCompiled(t, "LL//a:=1;b!=a;a:=b;", "const 0 1; put 0 0; get 0 0; release 0; put 1 0; get 0 1; put 0 0; halt", "0 0 1 1 1 2 2 -1")
}

func TestCodeOfStatementsInOthers(t *testing.T) {
	checkCompiled(t, "LL/L/ifa{P[b]:=a;}{b!=1;}", "get 0 0; zero 0 6; get 0 0; get 1 1; store 0 1 0; jump 9; const 0 1; release 0; put 1 0; halt", "0 0 1 1 1 0 2 2 2 -1")
	checkCompiled(t, "LL/L/ifa{b!=1;}{P[b]:=a;}", "get 0 0; zero 0 6; const 0 1; release 0; put 1 0; jump 9; get 0 0; get 1 1; store 0 1 0; halt", "0 0 1 1 1 0 2 2 2 -1")
	checkCompiled(t, "LL/L/repeat2{P[1]:=b;}", "const 9 2; get 0 1; const 1 1; store 0 1 0; loop 9 1; halt", "0 1 1 1 0 -1")
	checkCompiled(t, "L//repeat1{a!=a;}", "const 9 1; get 0 0; release 0; put 0 0; loop 9 1; halt", "0 1 1 1 0 -1")
	checkCompiled(t, "L//repeat2{ifa{a:=1;}{}}", "const 9 2; get 0 0; zero 0 6; const 0 1; put 0 0; jump 6; loop 9 1; halt", "0 1 1 2 2 1 0 -1")
	checkCompiled(t, "L//ifa{ifa{}{}}{ifa{}{}}", "get 0 0; zero 0 6; get 0 0; zero 0 5; jump 5; jump 9; get 0 0; zero 0 9; jump 9; halt", "0 0 1 1 1 0 2 2 2 -1")
	checkCompiled(t, "L//ifa{repeat2{}}{repeat3{a:=1;}}", "get 0 0; zero 0 5; const 10 2; loop 10 3; jump 9; const 10 3; const 0 1; put 0 0; loop 10 6; halt", "0 0 1 1 0 2 3 3 2 -1")
}

func TestCodeOfBranches(t *testing.T) {
	checkCompiled(t, "L//ifa{}{a:=1;}", "get 0 0; zero 0 3; jump 5; const 0 1; put 0 0; halt", "0 0 0 1 1 -1")
	checkCompiled(t, "L//ifa{a:=1;}{}", "get 0 0; zero 0 5; const 0 1; put 0 0; jump 5; halt", "0 0 1 1 0 -1")
	checkCompiled(t, "L//ifa{}{}", "get 0 0; zero 0 3; jump 3; halt", "0 0 0 -1")
	checkCompiled(t, "L//ifa{}{}ifa{}{}", "get 0 0; zero 0 3; jump 3; get 0 0; zero 0 6; jump 6; halt", "0 0 0 1 1 1 -1")
	checkCompiled(t, "L//ifa{a:=0;}{}ifa{}{a:=1;}a:=2;", "get 0 0; zero 0 5; const 0 0; put 0 0; jump 5; get 0 0; zero 0 8; jump 10; const 0 1; put 0 0; const 0 2; put 0 0; halt", "0 0 1 1 0 2 2 2 3 3 4 4 -1")
	checkCompiled(t, "LL/LL/if(P[a]<Q[b]){}{}", "get 0 0; load 0 0 0; get 1 1; load 1 1 1; bin 0 10 0 1; zero 0 7; jump 7; halt", "0 0 0 0 0 0 0 -1")
	checkCompiled(t, "L//a:=2;ifa{a:=3;a:=4;}{a:=5;a:=6;}", "const 0 2; put 0 0; get 0 0; zero 0 9; const 0 3; put 0 0; const 0 4; put 0 0; jump 13; const 0 5; put 0 0; const 0 6; put 0 0; halt", "0 0 1 1 2 2 3 3 1 4 4 5 5 -1")
}

func TestCodeOfRepetitions(t *testing.T) {
	checkCompiled(t, "L//repeat1{}", "const 9 1; loop 9 1; halt", "0 0 -1")
	checkCompiled(t, "L//repeat3{}", "const 9 3; loop 9 1; halt", "0 0 -1")
	checkCompiled(t, "L//repeat1{a:=2;}", "const 9 1; const 0 2; put 0 0; loop 9 1; halt", "0 1 1 0 -1")
	checkCompiled(t, "L//repeat2{}repeat3{}", "const 9 2; loop 9 1; const 9 3; loop 9 3; halt", "0 0 1 1 -1")
	checkCompiled(t, "L//a:=1;repeat2{a:=2;a:=3;}a:=4;", "const 0 1; put 0 0; const 9 2; const 0 2; put 0 0; const 0 3; put 0 0; loop 9 3; const 0 4; put 0 0; halt", "0 0 1 2 2 3 3 1 4 4 -1")
	checkCompiled(t, "L//repeat2{repeat3{}}", "const 9 2; const 10 3; loop 10 2; loop 9 1; halt", "0 1 1 0 -1")
	checkCompiled(t, "L//repeat2{repeat3{}repeat1{}}", "const 9 2; const 10 3; loop 10 2; const 10 1; loop 10 4; loop 9 1; halt", "0 1 1 2 2 0 -1")
	checkCompiled(t, "L//repeat2{ifa{}{repeat3{}}}", "const 9 2; get 0 0; zero 0 4; jump 6; const 11 3; loop 11 5; loop 9 1; halt", "0 1 1 1 2 2 0 -1")
	checkCompiled(t, "L//repeat3{repeat2{a:=(a?2:a);}}", "const 9 3; const 10 2; get 0 0; const 1 2; get 2 0; select 0 0 1 2; put 0 0; loop 10 2; loop 9 1; halt", "0 1 2 2 2 2 2 1 0 -1")
}

func TestCodeOfTheDeepestStatements(t *testing.T) {
	checkCompiled(t, "L//repeat1{repeat2{repeat3{repeat2{repeat3{}}}}}",
		"const 9 1; const 10 2; const 11 3; const 12 2; const 13 3; loop 13 5; loop 12 4; loop 11 3; loop 10 2; loop 9 1; halt", "0 1 2 3 4 4 3 2 1 0 -1")
	checkCompiled(t, "L//repeat3{repeat2{repeat1{repeat3{a:=(a+1);}a:=2;}}}",
		"const 9 3; const 10 2; const 11 1; const 12 3; get 0 0; const 1 1; bin 0 4 0 1; put 0 0; loop 12 4; const 0 2; put 0 0; loop 11 3; loop 10 2; loop 9 1; halt", "0 1 2 3 4 4 4 4 3 5 5 2 1 0 -1")
	checkCompiled(t, "L//if1{if1{if1{if1{repeat3{}}{}}{}}{}}{}",
		"const 0 1; zero 0 14; const 0 1; zero 0 13; const 0 1; zero 0 12; const 0 1; zero 0 11; const 13 3; loop 13 9; jump 11; jump 12; jump 13; jump 14; halt", "0 0 1 1 2 2 3 3 4 4 3 2 1 0 -1")
	checkCompiled(t, "L//if1{}{if1{}{repeat2{if1{}{repeat3{}}}}}",
		"const 0 1; zero 0 3; jump 13; const 0 1; zero 0 6; jump 13; const 11 2; const 0 1; zero 0 10; jump 12; const 13 3; loop 13 11; loop 11 7; halt", "0 0 0 1 1 1 2 3 3 3 4 4 2 -1")
	for _, where := range []string{"body", "else", "repeat"} {
		p := smallest(nestOf(5, where), nestOf(3, where))
		list, from := plainlyCompiled(p)
		checkCompiledCode(t, p, list, from)
		checkNotCompiled(t, "depth 6 in "+where, smallest(nestOf(6, where)))
	}
	// The expression with the most registers uses none of a repetition.
	checkCompiled(t, "L//repeat2{a:=(a?1:(a?2:(a?3:(a?4:a))));}", "const 9 2; get 0 0; const 1 1; get 2 0; const 3 2; get 4 0; const 5 3; get 6 0; const 7 4; get 8 0; select 6 6 7 8; select 4 4 5 6; select 2 2 3 4; select 0 0 1 2; put 0 0; loop 9 1; halt",
		"0 1 1 1 1 1 1 1 1 1 1 1 1 1 1 0 -1")
}

func TestNumbersInTheMap(t *testing.T) {
	checkCompiled(t, "LL//ifa{repeat2{b:=1;}b:=2;}{ifb{}{a:=3;}}a:=4;",
		"get 0 0; zero 0 9; const 10 2; const 0 1; put 1 0; loop 10 3; const 0 2; put 1 0; jump 14; get 0 1; zero 0 12; jump 14; const 0 3; put 0 0; const 0 4; put 0 0; halt",
		"0 0 1 2 2 1 3 3 0 4 4 4 5 5 6 6 -1")
	checkCompiled(t, "L//repeat2{ifa{}{}ifa{a:=1;}{a:=2;}}ifa{}{}",
		"const 9 2; get 0 0; zero 0 4; jump 4; get 0 0; zero 0 9; const 0 1; put 0 0; jump 11; const 0 2; put 0 0; loop 9 1; get 0 0; zero 0 15; jump 15; halt",
		"0 1 1 1 2 2 3 3 2 4 4 0 5 5 5 -1")
	// A statement has the number that the checks of chapter 4 report.
	for text, at := range map[string]int{"LH//ifa{repeat2{b:=1;}b:=2;}{ifa{}{b:=3;}}a:=b;": 6, "LH//ifa{repeat2{a:=b;}b:=2;}{ifa{}{b:=3;}}": 2, "LH//repeat1{}ifa{}{ifa{}{a:=b;}}b:=1;": 3} {
		p := parsed(t, text)
		result, number := impl.CheckFlow(p)
		c, _ := impl.CompileProgram(p)
		from, ok := impl.CompileMap(p)
		for i, in := range c.List {
			if ok && (in == instr(impl.OpPut, 0, 0)) != (from[i] == number && in.Op == impl.OpPut) {
				t.Errorf("instruction %d of %q is from statement %d", i, text, from[i])
			}
		}
		if result != impl.FlowAssign || number != at || len(from) != len(c.List) {
			t.Errorf("CheckFlow of %q = %d, %d, and CompileMap = %v, %v", text, result, number, from, ok)
		}
	}
}

func TestValueBeforeIndex(t *testing.T) {
	checkCompiled(t, "LL/LL/P[a]:=Q[b];", "get 0 1; load 0 1 0; get 1 0; store 0 1 0; halt", "0 0 0 0 -1")
	checkCompiled(t, "LL/LL/Q[3]:=(P[a]-P[b]);", "get 0 0; load 0 0 0; get 1 1; load 1 0 1; bin 0 5 0 1; const 1 3; store 1 1 0; halt", "0 0 0 0 0 0 0 -1")
	checkCompiled(t, "L/L/P[a]:=(P[a]?(P[1]+a):(2-P[a]));", "get 0 0; load 0 0 0; const 1 1; load 1 0 1; get 2 0; bin 1 4 1 2; const 2 2; get 3 0; load 3 0 3; bin 2 5 2 3; select 0 0 1 2; get 1 0; store 0 1 0; halt", "0 0 0 0 0 0 0 0 0 0 0 0 0 -1")
	// An index is a constant or a variable, so that a program with any other one is not valid.
	for _, index := range []impl.Expr{read(0, constant(0)), read(0, variable(0)), operation(impl.ExprAdd, variable(0), constant(1)), operation(impl.ExprSelect, variable(0), constant(1), constant(2))} {
		p := impl.Program{Vars: []int{0}, Arrays: []int{0}, Body: []impl.Stmt{storeTo(0, index, operation(impl.ExprAdd, read(0, constant(1)), variable(0)))}}
		checkNotCompiled(t, "an index with operands", p)
		checkNotSecure(t, "an index with operands", p)
	}
}

// filled returns a program whose code has that many instructions: those of the statements of text, of others, and the halt.
func filled(t *testing.T, text string, total int) impl.Program {
	t.Helper()
	p := parsed(t, text)
	rest := total - 1 - sizeOf(p.Body)
	for ; rest > 17; rest -= 16 {
		p.Body = append([]impl.Stmt{assign(0, bushOf(15))}, p.Body...)
	}
	last := assign(0, bushOf(max(1, rest-1)|1))
	if rest%2 == 1 {
		last = releaseTo(0, bushOf(rest-2))
	}
	p.Body = append([]impl.Stmt{last}, p.Body...)
	if !impl.ProgramValid(p) || sizeOf(p.Body)+1 != total {
		t.Fatalf("%q has %d instructions, want %d", impl.FormatProgram(p), sizeOf(p.Body)+1, total)
	}
	return p
}

func TestLengthOfCode(t *testing.T) {
	for _, text := range []string{
		"L//", "LL/L/P[0]:=b;", "L//repeat3{}", "L//repeat3{repeat3{a:=1;}}", "L//ifa{}{}", "L//ifa{a:=1;}{}", "L//ifa{}{a:=1;}", "L//ifa{a!=1;}{a:=2;}repeat2{}",
		"L//ifa{" + strings.Repeat("a:=(a+1);", 10) + "}{" + strings.Repeat("a:=(a+1);", 10) + "}", "L//repeat2{" + strings.Repeat("a!=(a+1);", 20) + "}",
	} {
		for _, total := range []int{300, 380, 384, 398, 399, 400, 401, 402, 416, 450} {
			p := filled(t, text, total)
			if total > 400 {
				checkNotCompiled(t, strconv.Itoa(total)+" instructions", p)
				continue
			}
			list, from := plainlyCompiled(p)
			c := checkCompiledCode(t, p, list, from)
			if len(c.List) != total || len(from) != total {
				t.Errorf("%q has %d instructions, want %d", impl.FormatProgram(p), len(c.List), total)
			}
			numbers := source(total)
			for range 3 {
				checkCompiledRun(t, p, c, numbers.someMemory(p))
			}
		}
	}
	sixty := slices.Repeat([]impl.Stmt{assign(0, bushOf(15))}, 60)
	for what, p := range map[string]impl.Program{
		"961 instructions": smallest(sixty...), "in a Body": smallest(ifElse(constant(1), sixty[:25], nil)), "in an Else": smallest(ifElse(constant(1), nil, sixty[:25])),
		"in both": smallest(ifElse(constant(1), sixty[:13], sixty[:13])), "in a repetition": smallest(repeat(3, sixty[:25]...)), "in a nested one": smallest(repeat(1, repeat(1, ifElse(constant(1), sixty[:25], nil)))),
	} {
		checkNotCompiled(t, what, p)
		checkNotSecure(t, what, p)
	}
	for _, p := range []impl.Program{smallest(slices.Repeat([]impl.Stmt{repeat(3)}, 60)...), smallest(slices.Repeat([]impl.Stmt{releaseTo(0, chainOf(2))}, 60)...), smallest(repeat(2, slices.Repeat([]impl.Stmt{ifElse(variable(0), nil, nil)}, 59)...))} {
		list, from := plainlyCompiled(p)
		checkCompiledCode(t, p, list, from)
	}
}

func TestInvalidProgramsAreNotCompiled(t *testing.T) {
	for what, p := range invalidPrograms() {
		checkNotCompiled(t, what, p)
		checkNotSecure(t, what, p)
	}
	for _, count := range []int{math.MinInt, -1, 0, 4, 5, 256, 257, 1<<32 + 1, math.MaxInt} {
		for _, s := range []impl.Stmt{repeat(count), repeat(count, assign(0, constant(1))), repeat(2, repeat(count)), ifElse(constant(1), nil, []impl.Stmt{repeat(count)})} {
			checkNotCompiled(t, "count "+strconv.Itoa(count), smallest(s))
			checkNotSecure(t, "count "+strconv.Itoa(count), smallest(s))
		}
	}
}

// deepened returns statements of which most have larger values, and some assignments are repetitions of nothing.
func (s *source) deepened(p impl.Program, list []impl.Stmt) []impl.Stmt {
	list = clonedBlock(list)
	for i := range list {
		if e := s.someExpr(p, 5); list[i].Kind != impl.StmtRepeat && s.below(4) > 0 && impl.ExprValid(p, e) {
			list[i].Value = e
		}
		if list[i].Kind == impl.StmtAssign && s.below(12) == 0 {
			list[i] = repeat(1 + s.below(3))
		}
		list[i].Body, list[i].Else = s.deepened(p, list[i].Body), s.deepened(p, list[i].Else)
	}
	return list
}

// deepProgram returns a valid program that may be as deep and have as large expressions as any.
func (s *source) deepProgram(vars int) impl.Program {
	for {
		p := s.someProgram(vars)
		p.Body = nil
		for range 1 + s.below(8) {
			p.Body = append(p.Body, s.deepened(p, s.someBlock(p, 5))...)
		}
		if impl.ProgramValid(p) {
			return p
		}
	}
}

func TestManyCompiledPrograms(t *testing.T) {
	numbers := source(71)
	seen := map[string]int{}
	for range 3000 {
		p := numbers.deepProgram(6)
		if sizeOf(p.Body) >= 400 {
			checkNotCompiled(t, impl.FormatProgram(p), p)
			seen["too long"]++
			continue
		}
		list, from := plainlyCompiled(p)
		c := checkCompiledCode(t, p, list, from)
		for _, reg := range []string{"loop 9 ", "loop 10 ", "loop 11 ", "loop 12 ", "loop 13 "} {
			if strings.Contains(list, reg) {
				seen[reg]++
			}
		}
		// Equal traces of the program are equal traces of the code.
		traces := map[string]string{}
		for range 12 {
			trace, steps := checkCompiledRun(t, p, c, numbers.someMemory(p))
			if other, ok := traces[trace]; !ok {
				traces[trace] = steps
			} else if other != steps {
				t.Errorf("%q has the trace %s twice, but its code has the traces %s and %s", impl.FormatProgram(p), trace, other, steps)
			} else if trace != "" {
				seen["equal"]++
			}
		}
		if len(traces) > 1 {
			seen["different"]++
		}
	}
	for what, least := range map[string]int{"too long": 1, "loop 9 ": 500, "loop 10 ": 500, "loop 11 ": 200, "loop 12 ": 100, "loop 13 ": 50, "equal": 5000, "different": 1000} {
		if seen[what] < least {
			t.Errorf("%s was seen only %d times", what, seen[what])
		}
	}
}

func TestRunsOfCompiledCode(t *testing.T) {
	for _, row := range []struct{ text, before, after, trace, steps string }{
		{"LH/L/ifa{b:=P[a];}{P[0]:=7;}", "2 9/3 4 5 6", "2 5/3 4 5 6", "1:1 2:2", "5:0 5:1 5:2 5:3 2:2 5:4 5:5 5:9"},
		{"LH/L/ifa{b:=P[a];}{P[0]:=7;}", "0 9/3 4 5 6", "0 9/7 4 5 6", "1:0 3:0", "5:0 5:1 5:6 5:7 5:8 3:0 5:9"},
		{"LL/LL/Q[a]:=(P[b]+Q[5]);", "3 2/1 2 3 4/5 6 7 8", "3 2/1 2 3 4/5 6 7 9", "2:2 2:5 3:7", "5:0 5:1 2:2 5:2 5:3 2:5 5:4 5:5 5:6 3:7 5:7"},
		{"L/L/P[a]:=P[a];", "2/1 2 3 4", "2/1 2 3 4", "2:2 3:2", "5:0 5:1 2:2 5:2 5:3 3:2 5:4"},
		{"L//a!=(a*2);", "200", "144", "4:144", "5:0 5:1 5:2 5:3 4:144 5:4 5:5"},
		{"L//repeat2{repeat2{a!=(a+1);}}", "254", "2", "4:255 4:0 4:1 4:2", "5:0 5:1 5:2 5:3 5:4 5:5 4:255 5:6 5:7 5:2 5:3 5:4 5:5 4:0 5:6 5:7 5:8 5:1 5:2 5:3 5:4 5:5 4:1 5:6 5:7 5:2 5:3 5:4 5:5 4:2 5:6 5:7 5:8 5:9"},
		{"L//repeat3{ifa{a:=(a-1);}{}}", "2", "0", "1:1 1:1 1:0", "5:0 5:1 5:2 5:3 5:4 5:5 5:6 5:7 5:8 5:1 5:2 5:3 5:4 5:5 5:6 5:7 5:8 5:1 5:2 5:8 5:9"},
		{"L//repeat3{}", "7", "7", "", "5:0 5:1 5:1 5:1 5:2"},
		{"L//", "7", "7", "", "5:0"},
	} {
		p, m := parsed(t, row.text), memoryIn(row.before)
		c, ok := impl.CompileProgram(p)
		out, _, ran := impl.RunCode(c, m)
		trace, steps := checkCompiledRun(t, p, c, m)
		if !ok || !ran || memoryText(out) != row.after || trace != row.trace || steps != row.steps {
			t.Errorf("%s with %s leads to %s with %s and %s, want %s with %s and %s", row.text, row.before, memoryText(out), trace, steps, row.after, row.trace, row.steps)
		}
	}
}

func TestRunsThatAreTooLong(t *testing.T) {
	p := parsed(t, "LL/L/repeat3{repeat3{repeat3{repeat3{"+strings.Repeat("a:=(((a+1)+(b+1))+((1+a)+(1+1)));", 19)+"P[a]:=a;}b!=P[a];}}}")
	m := memoryIn("1 2/3 4 5 6")
	c, ok := impl.CompileProgram(p)
	want, events, _ := impl.RunProgram(p, m)
	// Code that executes more than MaxSteps instructions has no result in chapter 6, so it is stepped through.
	out, steps, halted := stepThrough(t, c, m, 100000)
	if !ok || !halted || len(steps) <= 20000 || memoryText(out) != memoryText(want) || plainTrace(impl.ProjectTrace(steps)) != plainTrace(plainlyProjected(events)) {
		t.Errorf("a long run leads to %s with %d events, %v, want %s", memoryText(out), len(steps), halted, memoryText(want))
	}
	if out, steps, ran := impl.RunCode(c, m); ran || !isZeroMemory(out) || len(steps) != 0 {
		t.Errorf("RunCode = %s, %d events, %v", memoryText(out), len(steps), ran)
	}
}

func TestEqualTracesOfPrograms(t *testing.T) {
	for text, groups := range map[string]int{
		"L//a:=(a*a);": 1, "L//if(a<10){a:=1;}{a:=2;}": 2, "L/L/a:=P[a];": 4, "L/L/P[a]:=a;": 4, "L//a!=(a&7);": 8, "L//a!=a;": 256, "L//ifa{}{}": 2, "L//repeat3{ifa{a:=(a-1);}{}}": 4,
		"L//ifa{a:=1;}{a:=0;}a:=(a?5:6);": 2, "L/L/a:=((a&3)?P[0]:P[1]);": 1, "L//a:=(a=7);repeat2{ifa{a:=0;}{a:=(a+1);}}": 2,
	} {
		p := parsed(t, text)
		c, ok := impl.CompileProgram(p)
		traces, codes := map[string]string{}, map[string]bool{}
		for a := range 256 {
			m := impl.Memory{Vals: []int{a}}
			for range p.Arrays {
				m.Arrays = append(m.Arrays, []int{a, 1, 2, a})
			}
			trace, steps := checkCompiledRun(t, p, c, m)
			if other, found := traces[trace]; found && other != steps {
				t.Errorf("%s has the trace %s, but its code has the traces %s and %s", text, trace, other, steps)
			}
			traces[trace], codes[steps] = steps, true
		}
		if !ok || len(traces) != groups || len(codes) != groups {
			t.Errorf("%s has %d traces and its code has %d, want %d", text, len(traces), len(codes), groups)
		}
	}
}

func TestProjectedTraces(t *testing.T) {
	kinds := []int{1, 2, 3, 4, 5, 0, -1, -2, 6, 7, 12, 258, 1 << 32, 1<<32 + 2, math.MaxInt, math.MinInt}
	values := []int{0, 1, 7, 255, 256, -1, 1 << 40, math.MaxInt, math.MinInt}
	var all, wanted []impl.Event
	for _, kind := range kinds {
		for _, value := range values {
			event := impl.Event{Kind: kind, Value: value}
			kept := kind == impl.EventRead || kind == impl.EventWrite || kind == impl.EventRelease
			if got := impl.ProjectTrace([]impl.Event{event}); kept && !slices.Equal(got, []impl.Event{event}) || !kept && len(got) != 0 {
				t.Errorf("ProjectTrace of %v = %v", event, got)
			}
			if all = append(all, event); kept {
				wanted = append(wanted, event)
			}
		}
	}
	if got := impl.ProjectTrace(all); len(wanted) != 27 || !slices.Equal(got, wanted) {
		t.Errorf("ProjectTrace = %v, want %v", got, wanted)
	}
	if got := impl.ProjectTrace(wanted); !slices.Equal(got, wanted) {
		t.Errorf("ProjectTrace = %v, want %v", got, wanted)
	}
	slices.Reverse(all)
	slices.Reverse(wanted)
	if got := impl.ProjectTrace(all); !slices.Equal(got, wanted) {
		t.Errorf("ProjectTrace = %v, want %v", got, wanted)
	}
}

func TestProjectedTracesWithNothingToKeep(t *testing.T) {
	for _, list := range [][]impl.Event{nil, {}, {{}}, {{Kind: 5}}, {{Kind: 1, Value: 1}, {Kind: 5, Value: 2}}, slices.Repeat([]impl.Event{{Kind: 5, Value: 3}}, 1000), {{Kind: 6}, {Kind: -3}, {Kind: 0, Value: 2}}} {
		if got := impl.ProjectTrace(list); len(got) != 0 {
			t.Errorf("ProjectTrace of %v = %v", list, got)
		}
	}
	many := slices.Repeat([]impl.Event{{Kind: 5, Value: 1}, {Kind: 2, Value: 6}, {Kind: 5, Value: 2}, {Kind: 2, Value: 6}}, veryDeep)
	if got := impl.ProjectTrace(many); !slices.Equal(got, slices.Repeat([]impl.Event{{Kind: 2, Value: 6}}, 2*veryDeep)) {
		t.Errorf("ProjectTrace of a long trace has %d events", len(got))
	}
}

func TestShortProjectedTraces(t *testing.T) {
	var list []impl.Event
	var extend func(left int)
	extend = func(left int) {
		want := plainlyProjected(list)
		if got := impl.ProjectTrace(list); !slices.Equal(got, want) {
			t.Errorf("ProjectTrace of %v = %v, want %v", list, got, want)
		}
		for kind := 0; left > 0 && kind <= 6; kind++ {
			list = append(list, impl.Event{Kind: kind, Value: left})
			extend(left - 1)
			list = list[:len(list)-1]
		}
	}
	extend(4)
}

// checkSecure checks that CompileSecure returns the code of a linearized program, which has that text.
func checkSecure(t *testing.T, text string, linear string) {
	t.Helper()
	p, q := parsed(t, text), parsed(t, full(linear))
	list, _ := plainlyCompiled(q)
	want := codeIn(t, declarationsOf(q), list)
	c, ok := impl.CompileSecure(p)
	if !ok || plainCodeText(c) != plainCodeText(want) || !impl.CodeValid(c) {
		t.Errorf("CompileSecure of %q = %q, %v, want %q", text, plainCodeText(c), ok, plainCodeText(want))
		return
	}
	numbers := source(len(text))
	for range 30 {
		checkSecureRun(t, p, c, &numbers)
	}
}

// checkSecureRun checks that the code of a linearized program computes what p computes and, if p releases nothing, that it leaks nothing.
func checkSecureRun(t *testing.T, p impl.Program, c impl.Code, numbers *source) {
	t.Helper()
	m := numbers.someMemory(p)
	want, events, _ := impl.RunProgram(p, m)
	extend := func(m impl.Memory) impl.Memory {
		m = clonedMemory(m)
		m.Vals = append(m.Vals, make([]int, len(c.Vars)-len(p.Vars))...)
		return m
	}
	out, steps, ok := impl.RunCode(c, extend(m))
	if !ok || memoryText(impl.Memory{Vals: out.Vals[:len(p.Vars)], Arrays: out.Arrays}) != memoryText(want) || releasesIn(steps) != releasesIn(events) {
		t.Errorf("%q makes %s of %s, and its secure code makes %s", impl.FormatProgram(p), memoryText(want), memoryText(m), memoryText(out))
	}
	n := numbers.changedAt(p, m, isSecret)
	if _, others, _ := impl.RunCode(c, extend(n)); impl.ReleaseFree(p) && plainTrace(steps) != plainTrace(others) {
		t.Errorf("the secure code of %q has the trace %s with %s, and %s with %s", impl.FormatProgram(p), plainTrace(steps), memoryText(m), plainTrace(others), memoryText(n))
	}
}

func TestSecureCode(t *testing.T) {
	c, ok := impl.CompileSecure(parsed(t, "HH//ifb{a:=1;}{}"))
	want := "code HHHH/\nget 0 1\nput 2 0\nget 0 2\nconst 1 0\nbin 0 9 0 1\nput 3 0\nget 0 2\nconst 1 1\nget 2 0\nselect 0 0 1 2\nput 0 0\nhalt\n"
	if !ok || plainCodeText(c) != want {
		t.Errorf("CompileSecure = %q, %v, want %q", plainCodeText(c), ok, want)
	}
	checkSecure(t, "HH//ifb{a:=1;}{}", "HHHH//c:=b;d:=(c=0);a:=(c?1:a);")
	checkSecure(t, "LH/L/b:=P[b];", "LHH/L/<c=P[b]>b:=c;")
	checkSecure(t, "LH/H/P[b]:=a;", "LHL/H/c:=a;<P[b]=c>")
	checkSecure(t, "HH/H/ifa{P[b]:=a;}{}", "HHHHH/H/c:=a;d:=(c=0);e:=a;<P[b]=e|c>")
	checkSecure(t, "LH/L/repeat2{ifa{b!=P[b];}{repeat1{b:=P[b];}}a:=3;}", "LHHH/L/repeat2{ifa{<c=P[b]>b!=c;}{repeat1{<d=P[b]>b:=d;}}a:=3;}")
	checkSecure(t, "HH//ifa{repeat2{ifb{a:=0;}{a:=1;}b:=a;}}{}", "HHHHHH//c:=a;d:=(c=0);repeat2{e:=(c?b:0);f:=(c?(e=0):0);a:=(e?0:a);a:=(f?1:a);b:=(c?a:b);}")
	checkSecure(t, "XX//ifa{b:=1;}{}", "XXXX//c:=a;d:=(c=0);b:=(c?1:b);")
}

func TestSecureCodeOfProgramsThatStay(t *testing.T) {
	for _, text := range []string{"L//", "LHUX/HU/", "LH//a:=1;ifa{b:=(a+b);}{}", "L//ifa{}{}", "L//if1{if2{if3{if4{a:=1;}{}}{}}{}}{}", "LL/LL/a!=P[b];P[a]:=(Q[b]<3);repeat3{ifa{b!=1;}{b:=2;}}", "LH/H/P[a]:=b;b:=P[a];a!=(b?P[a]:1);"} {
		checkSecure(t, text, text)
	}
}

func TestProgramsWithoutSecureCode(t *testing.T) {
	for _, text := range []string{
		"LH//a:=b;", "LH//ifb{a:=1;}{}", "LU//a!=b;", "LH//ifb{b!=1;}{}", "LH/L/P[b]:=1;", "LH/L/P[a]:=b;",
		"HHHHHHHHHHHH//ifa{}{}", "HHHHHHHHHHH//ifa{}{}", "HHHHHHHHHHHH/L/a:=P[a];", "HHHHHHHHHHHH/H/P[a]:=1;",
		"H/L/" + strings.Repeat("a:=1;", 56) + "a:=P[a];", "HH/H/ifa{b:=(((a+1)+(1+1))+((1+1)+1));}{}", "HH/H/ifa{b:=((((a+1)+1)+1)+1);}{}",
	} {
		p := parsed(t, text)
		if q, ok := impl.Linearize(p); ok {
			t.Fatalf("Linearize of %q is %q", text, impl.FormatProgram(q))
		}
		checkNotSecure(t, text, p)
		if _, ok := impl.CompileProgram(p); !ok {
			t.Errorf("CompileProgram does not accept %q", text)
		}
	}
	checkNotSecure(t, "401 instructions", filled(t, "L//", 401))
	if c, ok := impl.CompileSecure(filled(t, "L//", 400)); !ok || len(c.List) != 400 {
		t.Errorf("CompileSecure of a program with 400 instructions has %d, %v", len(c.List), ok)
	}
}

func TestSecureCodeThatIsTooLong(t *testing.T) {
	// A read at a secret index becomes 34 instructions, one of which is the value of the assignment.
	for reads := 1; reads <= 10; reads++ {
		text := "LH/L/" + strings.Repeat("b:=P[b];", reads)
		for more := 34; more <= 66; more++ {
			total := 1 + 35*reads + more
			own := filled(t, text, 1+3*reads+more)
			c, ok := impl.CompileSecure(own)
			if _, fits := impl.CompileProgram(own); !fits {
				t.Fatalf("%q has no code", impl.FormatProgram(own))
			}
			if total > 400 {
				if q, linear := impl.Linearize(own); !linear || sizeOf(q.Body)+1 != total {
					t.Fatalf("Linearize of %q = %q, %v", impl.FormatProgram(own), impl.FormatProgram(q), linear)
				}
				checkNotSecure(t, impl.FormatProgram(own), own)
			} else if !ok || len(c.List) != total || !impl.CodeValid(c) {
				t.Errorf("CompileSecure of %q has %d instructions, %v, want %d", impl.FormatProgram(own), len(c.List), ok, total)
			}
		}
	}
}

func TestManySecureCodes(t *testing.T) {
	numbers := source(72)
	seen := map[string]int{}
	for range 6000 {
		p := numbers.someSecretProgram(6)
		q, linear := impl.Linearize(p)
		if !linear {
			checkNotSecure(t, impl.FormatProgram(p), p)
			seen["not linear"]++
			continue
		}
		if sizeOf(q.Body) >= 400 {
			checkNotSecure(t, impl.FormatProgram(p), p)
			seen["too long"]++
			continue
		}
		list, from := plainlyCompiled(q)
		want := checkCompiledCode(t, q, list, from)
		c, ok := impl.CompileSecure(p)
		if !ok || plainCodeText(c) != plainCodeText(want) {
			t.Errorf("CompileSecure of %q = %q, %v, want %q", impl.FormatProgram(p), plainCodeText(c), ok, plainCodeText(want))
			continue
		}
		if seen["the same"]++; !equalPrograms(p, q) {
			seen["changed"]++
		}
		for range 3 {
			checkSecureRun(t, p, c, &numbers)
		}
	}
	for what, least := range map[string]int{"not linear": 300, "too long": 1, "the same": 1500, "changed": 500} {
		if seen[what] < least {
			t.Errorf("%s was seen only %d times", what, seen[what])
		}
	}
}

// compileText uses every kind of statement, with expressions of every kind.
const compileText = "XLX/XX/a:=(P[c]+1);if(b-2){repeat2{Q[3]:=(b?a:c);}a:=1;}{c!=(b=0);}Q[a]:=Q[b];"

func TestCompilerKeepsArguments(t *testing.T) {
	for _, text := range []string{compileText, linearText, "L//", "LHUX/LL/"} {
		p := roomy(parsed(t, text))
		kept := clonedProgram(p)
		impl.CompileProgram(p)
		impl.CompileMap(p)
		impl.CompileSecure(p)
		for _, s := range p.Body {
			impl.CompileExpr(p, s.Value)
			impl.CompileExpr(p, s.Index)
		}
		if !reflect.DeepEqual(p, kept) || impl.FormatProgram(p) != text {
			t.Errorf("a function changed its argument %q to %q", text, impl.FormatProgram(p))
		}
		if !isRoomKept(p) {
			t.Error("a function changed what is beyond its argument")
		}
	}
	spare := []impl.Event{{Kind: 5, Value: 1}, {Kind: 2, Value: 2}, {Kind: 1, Value: 3}, {Kind: 4, Value: 4}, {Kind: 3, Value: 5}, {Kind: 77, Value: 77}, {Kind: 78, Value: 78}}
	want := slices.Clone(spare)
	for size := range 6 {
		impl.ProjectTrace(spare[:size])
		impl.ProjectTrace(spare[1:][:size])
		if !slices.Equal(spare, want) {
			t.Errorf("ProjectTrace changed a trace to %v", spare)
		}
	}
}

// checkAlone checks that a list that is the result of a call shares no memory, including unused capacity, with that of another call or with what decides the next one.
func checkAlone[T any](t *testing.T, what string, call func() []T, text func([]T) string, wrong T) {
	t.Helper()
	first, second := call(), call()
	want := text(second)
	first = first[:cap(first)]
	for i := range first {
		first[i] = wrong
	}
	if third := call(); text(second) != want || text(third) != want {
		t.Errorf("a result of %s shares memory with another one or with an argument", what)
	}
}

func TestCompilerResultsShareNoMemory(t *testing.T) {
	listText := func(list []impl.Instr) string { return plainCodeText(impl.Code{List: list}) }
	for _, text := range []string{compileText, linearText, "L//", "LHUX/LL/", "HH/H/ifa{P[3]:=b;P[b]:=(P[b]+P[a]);}{}"} {
		p := roomy(parsed(t, text))
		for what, compile := range map[string]func(p impl.Program) (impl.Code, bool){"CompileProgram": impl.CompileProgram, "CompileSecure": impl.CompileSecure} {
			first, ok := compile(p)
			second, okSecond := compile(p)
			used, want := map[*int]bool{}, plainCodeText(second)
			numbersUsed(used, p.Vars, p.Arrays)
			if !ok || !okSecond || !numbersUsed(used, first.Vars, first.Arrays) || !numbersUsed(used, second.Vars, second.Arrays) {
				t.Errorf("a result of %s for %q shares labels with another result, with an argument or with itself", what, text)
			}
			for _, list := range [][]int{first.Vars[:cap(first.Vars)], first.Arrays[:cap(first.Arrays)]} {
				for i := range list {
					list[i] = 77
				}
			}
			checkAlone(t, what, func() []impl.Instr { c, _ := compile(p); return c.List }, listText, instr(impl.OpFence))
			if third, _ := compile(p); plainCodeText(second) != want || plainCodeText(third) != want || impl.FormatProgram(p) != text {
				t.Errorf("a result of %s for %q shares memory, or %s keeps state", what, text, what)
			}
		}
		checkAlone(t, "CompileMap", func() []int { from, _ := impl.CompileMap(p); return from }, numbersText, 77)
		for _, s := range p.Body {
			checkAlone(t, "CompileExpr", func() []impl.Instr { list, _ := impl.CompileExpr(p, s.Value); return list }, listText, instr(impl.OpFence))
		}
		c, _ := impl.CompileProgram(p)
		want := plainCodeText(c)
		if overwriteProgram(p); plainCodeText(c) != want {
			t.Errorf("a result of CompileProgram for %q shares memory with an argument", text)
		}
	}
}

func TestProjectedTracesShareNoMemory(t *testing.T) {
	for _, list := range [][]impl.Event{{{Kind: 2, Value: 1}, {Kind: 3, Value: 2}, {Kind: 4, Value: 3}}, {{Kind: 5, Value: 1}, {Kind: 3, Value: 2}}, {{Kind: 5, Value: 1}, {Kind: 1, Value: 2}}, {}} {
		text := plainTrace(list)
		checkAlone(t, "ProjectTrace", func() []impl.Event { return impl.ProjectTrace(list) }, plainTrace, impl.Event{Kind: 77, Value: 77})
		got := impl.ProjectTrace(list)
		want := plainTrace(got)
		if plainTrace(list) != text {
			t.Errorf("a result of ProjectTrace shares memory with its argument %s", text)
		}
		if overwriteTrace(list); plainTrace(got) != want {
			t.Errorf("a result of ProjectTrace shares memory with its argument %s", text)
		}
	}
}

func TestCompilerWithOneSlice(t *testing.T) {
	labels := []int{0, 1, 2, 3}
	e := operation(impl.ExprAdd, variable(0), constant(1))
	body := []impl.Stmt{assign(1, e), storeTo(0, variable(0), e)}
	p := impl.Program{Vars: labels[:2], Arrays: labels[1:3], Body: []impl.Stmt{ifElse(e, body, body[:1]), repeat(2, body...)}}
	same := parsed(t, impl.FormatProgram(p))
	list, from := plainlyCompiled(same)
	c := checkCompiledCode(t, p, list, from)
	if !numbersUsed(map[*int]bool{}, c.Vars, c.Arrays) || numbersText(labels) != "0 1 2 3" || !equalPrograms(p, same) {
		t.Errorf("CompileProgram = %q, and the argument is %q", plainCodeText(c), impl.FormatProgram(p))
	}
}

func TestCompilerAtTheSameTime(t *testing.T) {
	p := parsed(t, linearText)
	c, _ := impl.CompileProgram(p)
	d, _ := impl.CompileSecure(p)
	from, _ := impl.CompileMap(p)
	want, secure, numbers := plainCodeText(c), plainCodeText(d), numbersText(from)
	var group sync.WaitGroup
	for range 8 {
		group.Go(func() {
			for range 100 {
				c, ok := impl.CompileProgram(p)
				d, okSecure := impl.CompileSecure(p)
				from, okMap := impl.CompileMap(p)
				if !ok || !okSecure || !okMap || plainCodeText(c) != want || plainCodeText(d) != secure || numbersText(from) != numbers {
					t.Errorf("CompileProgram = %q and CompileSecure = %q", plainCodeText(c), plainCodeText(d))
				}
			}
		})
	}
	group.Wait()
}
