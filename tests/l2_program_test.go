package tests

import (
	"math"
	"reflect"
	"slices"
	"strconv"
	"strings"
	"testing"

	"loop.example/constanttime/impl"
)

func constant(n int) impl.Expr { return impl.Expr{Kind: impl.ExprConst, Value: n} }

func variable(v int) impl.Expr { return impl.Expr{Kind: impl.ExprVar, Value: v} }

func read(a int, index impl.Expr) impl.Expr {
	return impl.Expr{Kind: impl.ExprRead, Value: a, Kids: []impl.Expr{index}}
}

func operation(kind int, operands ...impl.Expr) impl.Expr {
	return impl.Expr{Kind: kind, Kids: operands}
}

func assign(v int, e impl.Expr) impl.Stmt {
	return impl.Stmt{Kind: impl.StmtAssign, Target: v, Value: e}
}

func releaseTo(v int, e impl.Expr) impl.Stmt {
	return impl.Stmt{Kind: impl.StmtRelease, Target: v, Value: e}
}

func storeTo(a int, index impl.Expr, e impl.Expr) impl.Stmt {
	return impl.Stmt{Kind: impl.StmtStore, Target: a, Index: index, Value: e}
}

func ifElse(e impl.Expr, body []impl.Stmt, other []impl.Stmt) impl.Stmt {
	return impl.Stmt{Kind: impl.StmtIf, Value: e, Body: body, Else: other}
}

func repeat(count int, body ...impl.Stmt) impl.Stmt {
	return impl.Stmt{Kind: impl.StmtRepeat, Count: count, Body: body}
}

// widest has as many variables and arrays as there may be.
func widest(body ...impl.Stmt) impl.Program {
	return impl.Program{Vars: []int{0, 1, 2, 3, 0, 1, 2, 3, 0, 1, 2, 3}, Arrays: []int{1, 2}, Body: body}
}

// smallest has a variable and nothing else that is declared.
func smallest(body ...impl.Stmt) impl.Program { return impl.Program{Vars: []int{0}, Body: body} }

// parsed returns the program with that text.
func parsed(t *testing.T, text string) impl.Program {
	t.Helper()
	p, ok := impl.ParseProgram(text)
	if !ok {
		t.Fatalf("ParseProgram(%q) finds no program", text)
	}
	return p
}

// isZeroProgram does not use the functions that are tested.
func isZeroProgram(p impl.Program) bool {
	return len(p.Vars) == 0 && len(p.Arrays) == 0 && len(p.Body) == 0
}

// checkNoProgram checks that text is not the text of a program.
func checkNoProgram(t *testing.T, text string) {
	t.Helper()
	if p, ok := impl.ParseProgram(text); ok || !isZeroProgram(p) {
		t.Errorf("ParseProgram(%.200q) = %v, %v", text, p, ok)
	}
}

// checkProgramText checks that p is valid and has that text, and that the text is read back.
func checkProgramText(t *testing.T, p impl.Program, text string) {
	t.Helper()
	if !impl.ProgramValid(p) {
		t.Errorf("ProgramValid is false for %q", text)
	}
	if got := impl.FormatProgram(p); got != text {
		t.Errorf("FormatProgram = %q, want %q", got, text)
	}
	back, ok := impl.ParseProgram(text)
	if !ok || !impl.ProgramSame(back, p) || !impl.ProgramSame(p, back) || !equalPrograms(back, p) {
		t.Errorf("ParseProgram(%q) = %v, %v, want %v", text, back, ok, p)
	}
}

// checkInvalidProgram checks the results of all functions for a program that is not valid.
func checkInvalidProgram(t *testing.T, what string, p impl.Program) {
	t.Helper()
	if impl.ProgramValid(p) {
		t.Errorf("%s: ProgramValid is true", what)
	}
	if got := impl.FormatProgram(p); got != "" {
		t.Errorf("%s: FormatProgram = %q", what, got)
	}
	if vars, arrays := impl.ProgramWrites(p); len(vars) != 0 || len(arrays) != 0 {
		t.Errorf("%s: ProgramWrites = %v, %v", what, vars, arrays)
	}
	if got := impl.CountStmts(p); got != 0 {
		t.Errorf("%s: CountStmts = %d", what, got)
	}
}

// checkExprText checks that e is valid in p and has that text.
func checkExprText(t *testing.T, p impl.Program, e impl.Expr, text string) {
	t.Helper()
	if !impl.ExprValid(p, e) {
		t.Errorf("ExprValid is false for %q", text)
	}
	if got := impl.FormatExpr(p, e); got != text {
		t.Errorf("FormatExpr = %q, want %q", got, text)
	}
	p.Body = []impl.Stmt{assign(0, e), releaseTo(0, e), ifElse(e, nil, nil)}
	stmts := "a:=" + text + ";a!=" + text + ";if" + text + "{}{}"
	if len(p.Arrays) > 0 {
		p.Body = append(p.Body, storeTo(0, constant(0), e))
		stmts += "P[0]:=" + text + ";"
	}
	checkProgramText(t, p, impl.FormatLabels(p.Vars)+"/"+impl.FormatLabels(p.Arrays)+"/"+stmts)
}

// checkInvalidExpr checks the results for an expression that is not valid in p, by itself and in every field.
func checkInvalidExpr(t *testing.T, what string, p impl.Program, e impl.Expr) {
	t.Helper()
	if impl.ExprValid(p, e) {
		t.Errorf("%s: ExprValid is true", what)
	}
	if got := impl.FormatExpr(p, e); got != "" {
		t.Errorf("%s: FormatExpr = %q", what, got)
	}
	for _, s := range []impl.Stmt{assign(0, e), releaseTo(0, e), storeTo(0, constant(0), e), storeTo(0, e, constant(0)), ifElse(e, nil, nil)} {
		p.Body = []impl.Stmt{s}
		checkInvalidProgram(t, what, p)
		p.Body = []impl.Stmt{ifElse(constant(0), nil, []impl.Stmt{repeat(1, s)})}
		checkInvalidProgram(t, what, p)
	}
}

// equalLists takes nil for empty.
func equalLists(a []int, b []int) bool { return len(a) == 0 && len(b) == 0 || reflect.DeepEqual(a, b) }

// equalExprs is the plain definition of equality, for expressions that are not too deep.
func equalExprs(a impl.Expr, b impl.Expr) bool {
	return a.Kind == b.Kind && a.Value == b.Value && slices.EqualFunc(a.Kids, b.Kids, equalExprs)
}

func equalStmts(a impl.Stmt, b impl.Stmt) bool {
	return a.Kind == b.Kind && a.Target == b.Target && a.Count == b.Count && equalExprs(a.Index, b.Index) && equalExprs(a.Value, b.Value) &&
		slices.EqualFunc(a.Body, b.Body, equalStmts) && slices.EqualFunc(a.Else, b.Else, equalStmts)
}

func equalPrograms(a impl.Program, b impl.Program) bool {
	return equalLists(a.Vars, b.Vars) && equalLists(a.Arrays, b.Arrays) && slices.EqualFunc(a.Body, b.Body, equalStmts)
}

func TestConstantsOfPrograms(t *testing.T) {
	exprs := []int{impl.ExprConst, impl.ExprVar, impl.ExprRead, impl.ExprAdd, impl.ExprSub, impl.ExprMul, impl.ExprAnd, impl.ExprXor, impl.ExprEqual, impl.ExprLess, impl.ExprSelect}
	if !slices.Equal(exprs, []int{1, 2, 3, 4, 5, 6, 7, 8, 9, 10, 11}) {
		t.Errorf("the kinds of expressions are %v", exprs)
	}
	stmts := []int{impl.StmtAssign, impl.StmtStore, impl.StmtIf, impl.StmtRepeat, impl.StmtRelease}
	if !slices.Equal(stmts, []int{1, 2, 3, 4, 5}) {
		t.Errorf("the kinds of statements are %v", stmts)
	}
	limits := []int{impl.MaxValue, impl.MaxVars, impl.MaxArrays, impl.ArraySize, impl.MaxExprNodes, impl.MaxExprDepth, impl.MaxStmts, impl.MaxStmtDepth, impl.MaxRepeat}
	if !slices.Equal(limits, []int{255, 12, 2, 4, 15, 5, 60, 5, 3}) {
		t.Errorf("the limits are %v", limits)
	}
}

func TestEveryKindOfExpression(t *testing.T) {
	p := widest()
	for n := range 256 {
		checkExprText(t, p, constant(n), strconv.Itoa(n))
	}
	for v := range 12 {
		checkExprText(t, p, variable(v), "abcdefghijkl"[v:v+1])
	}
	checkExprText(t, p, read(0, constant(7)), "P[7]")
	checkExprText(t, p, read(1, variable(11)), "Q[l]")
	for i, operator := range "+-*&^=<" {
		kind := impl.ExprAdd + i
		checkExprText(t, p, operation(kind, variable(0), constant(255)), "(a"+string(operator)+"255)")
		checkExprText(t, p, operation(kind, operation(kind, constant(1), constant(2)), read(0, variable(1))), "((1"+string(operator)+"2)"+string(operator)+"P[b])")
	}
	checkExprText(t, p, operation(impl.ExprSelect, variable(8), variable(5), constant(0)), "(i?f:0)")
	nested := operation(impl.ExprSelect, operation(impl.ExprEqual, variable(0), constant(1)), operation(impl.ExprSelect, constant(0), constant(1), constant(2)), read(1, constant(3)))
	checkExprText(t, p, nested, "((a=1)?(0?1:2):Q[3])")
}

func TestEveryKindOfStatement(t *testing.T) {
	checkProgramText(t, widest(assign(8, variable(5))), "LHUXLHUXLHUX/HU/i:=f;")
	checkProgramText(t, widest(releaseTo(8, variable(5))), "LHUXLHUXLHUX/HU/i!=f;")
	checkProgramText(t, widest(storeTo(0, variable(2), constant(9))), "LHUXLHUXLHUX/HU/P[c]:=9;")
	checkProgramText(t, widest(storeTo(1, constant(255), read(0, constant(0)))), "LHUXLHUXLHUX/HU/Q[255]:=P[0];")
	checkProgramText(t, widest(ifElse(variable(5), nil, nil)), "LHUXLHUXLHUX/HU/iff{}{}")
	checkProgramText(t, widest(ifElse(operation(impl.ExprLess, variable(0), constant(3)), []impl.Stmt{assign(0, constant(1))}, []impl.Stmt{assign(0, constant(2)), assign(1, constant(3))})),
		"LHUXLHUXLHUX/HU/if(a<3){a:=1;}{a:=2;b:=3;}")
	for count := 1; count <= 3; count++ {
		checkProgramText(t, smallest(repeat(count)), "L//repeat"+strconv.Itoa(count)+"{}")
		checkProgramText(t, smallest(repeat(count, releaseTo(0, constant(0)))), "L//repeat"+strconv.Itoa(count)+"{a!=0;}")
	}
	checkProgramText(t, impl.Program{Vars: []int{0, 1}, Arrays: []int{0}, Body: []impl.Stmt{ifElse(variable(1), []impl.Stmt{assign(0, constant(1))}, nil)}}, "LH/L/ifb{a:=1;}{}")
}

func TestProgramWithoutStatements(t *testing.T) {
	for text, p := range map[string]impl.Program{
		"L//":              {Vars: []int{0}},
		"X/U/":             {Vars: []int{3}, Arrays: []int{2}},
		"LHUXLHUXLHUX/HU/": widest(),
		"LLLLLLLLLLLL/LL/": {Vars: make([]int, 12), Arrays: make([]int, 2), Body: []impl.Stmt{}},
		"HL//":             {Vars: []int{1, 0}, Arrays: []int{}, Body: []impl.Stmt{}},
	} {
		checkProgramText(t, p, text)
		if impl.CountStmts(p) != 0 {
			t.Errorf("CountStmts of %q is %d", text, impl.CountStmts(p))
		}
		vars, arrays := impl.ProgramWrites(p)
		if !slices.Equal(vars, make([]bool, len(p.Vars))) || !slices.Equal(arrays, make([]bool, len(p.Arrays))) {
			t.Errorf("ProgramWrites of %q = %v, %v", text, vars, arrays)
		}
	}
}

func TestInvalidDeclarations(t *testing.T) {
	rows := map[string]impl.Program{
		"nothing":       {},
		"no variable":   {Arrays: []int{0}},
		"13 variables":  {Vars: make([]int, 13)},
		"99 variables":  {Vars: make([]int, 99), Arrays: []int{0}},
		"3 arrays":      {Vars: []int{0}, Arrays: make([]int, 3)},
		"99 arrays":     {Vars: []int{0}, Arrays: make([]int, 99)},
		"both too many": {Vars: make([]int, 13), Arrays: make([]int, 3)},
	}
	for _, n := range notLabels {
		rows["first variable "+strconv.Itoa(n)] = impl.Program{Vars: []int{n}}
		rows["last variable "+strconv.Itoa(n)] = impl.Program{Vars: []int{0, 3, n}}
		rows["first array "+strconv.Itoa(n)] = impl.Program{Vars: []int{0}, Arrays: []int{n, 0}}
		rows["last array "+strconv.Itoa(n)] = impl.Program{Vars: []int{0}, Arrays: []int{0, n}}
	}
	for what, p := range rows {
		for _, body := range [][]impl.Stmt{nil, {repeat(1)}, {assign(0, constant(1))}} {
			p.Body = body
			checkInvalidProgram(t, what, p)
		}
		checkInvalidExpr(t, what, p, constant(1))
		checkInvalidExpr(t, what, p, variable(0))
	}
	for _, text := range []string{"", "/", "//", "/L/", "L", "L/", "L/L", "/", "LLLLLLLLLLLLL//", "L/LLL/", "M//", "l//", "L/M/", "0//", " L//", "L //", "L/ /", "L///", "L\n//"} {
		checkNoProgram(t, text)
	}
}

func TestExprValidIgnoresBody(t *testing.T) {
	p := smallest(impl.Stmt{Kind: 99}, assign(7, constant(-1)))
	if impl.ProgramValid(p) || !impl.ExprValid(p, variable(0)) || impl.FormatExpr(p, variable(0)) != "a" {
		t.Errorf("ExprValid or FormatExpr looks at Body: %v, %q", impl.ExprValid(p, variable(0)), impl.FormatExpr(p, variable(0)))
	}
}

func TestInvalidNodes(t *testing.T) {
	p := impl.Program{Vars: []int{0, 1}, Arrays: []int{0}}
	for _, n := range []int{-1, 256, 257, 1 << 32, math.MaxInt, math.MinInt} {
		checkInvalidExpr(t, "constant "+strconv.Itoa(n), p, constant(n))
	}
	for _, n := range []int{-1, 2, 3, 11, 12, 256, 1 << 32, math.MaxInt, math.MinInt} {
		checkInvalidExpr(t, "variable "+strconv.Itoa(n), p, variable(n))
		checkInvalidExpr(t, "index "+strconv.Itoa(n), p, read(0, variable(n)))
	}
	for _, n := range []int{-1, 1, 2, 256, math.MaxInt, math.MinInt} {
		checkInvalidExpr(t, "array "+strconv.Itoa(n), p, read(n, constant(0)))
	}
	for _, kind := range []int{0, -1, 12, 13, 255, 256 + 1, math.MaxInt, math.MinInt} {
		for operands := range 5 {
			checkInvalidExpr(t, "kind "+strconv.Itoa(kind), p, operation(kind, make([]impl.Expr, operands)...))
			checkInvalidExpr(t, "kind "+strconv.Itoa(kind), p, operation(kind, slices.Repeat([]impl.Expr{constant(1)}, operands)...))
		}
	}
	for kind := impl.ExprAdd; kind <= impl.ExprSelect; kind++ {
		for _, n := range []int{-1, 1, 256, math.MinInt} {
			e := operation(kind, constant(1), constant(2), constant(3))
			if kind != impl.ExprSelect {
				e.Kids = e.Kids[:2]
			}
			e.Value = n
			checkInvalidExpr(t, "kind "+strconv.Itoa(kind)+" with Value", p, e)
		}
	}
}

func TestNumberOfOperands(t *testing.T) {
	p := impl.Program{Vars: []int{0, 1}, Arrays: []int{0}}
	for kind, want := range []int{1: 0, 2: 0, 3: 1, 4: 2, 5: 2, 6: 2, 7: 2, 8: 2, 9: 2, 10: 2, 11: 3} {
		if kind == 0 {
			continue
		}
		for count := range 6 {
			e := operation(kind, slices.Repeat([]impl.Expr{constant(1)}, count)...)
			if count != want {
				checkInvalidExpr(t, "kind "+strconv.Itoa(kind)+" with "+strconv.Itoa(count)+" operands", p, e)
			} else if !impl.ExprValid(p, e) {
				t.Errorf("kind %d with %d operands is not valid", kind, count)
			}
		}
	}
}

func TestIndexOfAReadAndOfAStore(t *testing.T) {
	p := impl.Program{Vars: []int{0, 1}, Arrays: []int{0, 1}}
	complicated := map[string]impl.Expr{
		"P[0]":    read(0, constant(0)),
		"Q[b]":    read(1, variable(1)),
		"(0?1:2)": operation(impl.ExprSelect, constant(0), constant(1), constant(2)),
	}
	for i, operator := range "+-*&^=<" {
		complicated["(a"+string(operator)+"1)"] = operation(impl.ExprAdd+i, variable(0), constant(1))
	}
	for text, index := range complicated {
		checkExprText(t, p, index, text)
		checkInvalidExpr(t, "a read of "+text, p, read(0, index))
		checkInvalidExpr(t, "a deeper read of "+text, p, operation(impl.ExprAdd, constant(1), read(0, index)))
		p.Body = []impl.Stmt{storeTo(0, index, constant(1))}
		checkInvalidProgram(t, "a store at "+text, p)
		checkNoProgram(t, "LH/LH/a:=P["+text+"];")
		checkNoProgram(t, "LH/LH/P["+text+"]:=1;")
		checkNoProgram(t, "LH/LH/repeat1{P["+text+"]:=1;}")
	}
	for _, index := range []impl.Expr{{}, {Kind: 1, Value: 256}, {Kind: 2, Value: 2}, {Kind: 1, Kids: []impl.Expr{constant(0)}}, {Kind: 12}} {
		checkInvalidExpr(t, "a read at an invalid index", p, read(0, index))
		p.Body = []impl.Stmt{storeTo(0, index, constant(1))}
		checkInvalidProgram(t, "a store at an invalid index", p)
	}
}

// chainOf returns an expression with that depth, which has as few nodes as possible.
func chainOf(depth int) impl.Expr {
	e := constant(1)
	for level := 1; level < depth; level++ {
		e = operation(impl.ExprAdd, e, constant(1))
	}
	return e
}

// bushOf returns an expression with that odd number of nodes, which is as flat as possible.
func bushOf(count int) impl.Expr {
	if count == 1 {
		return constant(1)
	}
	left := (count - 1) / 2
	if left%2 == 0 {
		left++
	}
	return operation(impl.ExprAdd, bushOf(left), bushOf(count-1-left))
}

func TestSizeOfAnExpression(t *testing.T) {
	p := impl.Program{Vars: []int{0}, Arrays: []int{0}}
	checkExprText(t, p, chainOf(5), "((((1+1)+1)+1)+1)")
	checkInvalidExpr(t, "depth 6", p, chainOf(6))
	checkNoProgram(t, "L/L/a:=(((((1+1)+1)+1)+1)+1);")
	checkNoProgram(t, "L/L/a:=(1+(1+(1+(1+(1+1)))));")
	checkExprText(t, p, bushOf(15), "(((1+1)+(1+1))+((1+1)+(1+1)))")
	checkInvalidExpr(t, "17 nodes", p, bushOf(17))
	sixteen := bushOf(15)
	sixteen.Kids[1].Kids[1].Kids[1] = read(0, constant(1))
	checkInvalidExpr(t, "16 nodes", p, sixteen)
	checkNoProgram(t, "L/L/a:=(((1+1)+(1+1))+((1+1)+(1+P[1])));")
	fifteen := bushOf(15)
	fifteen.Kids[0].Kids[0] = constant(1)
	fifteen.Kids[1].Kids[1].Kids = []impl.Expr{read(0, constant(2)), read(0, variable(0))}
	checkExprText(t, p, fifteen, "((1+(1+1))+((1+1)+(P[2]+P[a])))")
	deepRead := operation(impl.ExprAdd, constant(1), operation(impl.ExprAdd, constant(1), operation(impl.ExprAdd, constant(1), read(0, constant(1)))))
	checkExprText(t, p, deepRead, "(1+(1+(1+P[1])))")
	checkInvalidExpr(t, "a read at depth 5", p, operation(impl.ExprAdd, constant(1), deepRead))
	checkNoProgram(t, "L/L/a:=(1+(1+(1+(1+P[1]))));")
}

func TestSizesOfSelections(t *testing.T) {
	p := smallest()
	three := operation(impl.ExprSelect, constant(0), constant(1), constant(2))
	sixteen := operation(impl.ExprSelect, three, three, operation(impl.ExprSelect, three, constant(1), constant(2)))
	checkInvalidExpr(t, "16 nodes of selections", p, sixteen)
	thirteen := operation(impl.ExprSelect, three, three, three)
	checkExprText(t, p, thirteen, "((0?1:2)?(0?1:2):(0?1:2))")
	sum := operation(impl.ExprAdd, thirteen, constant(1))
	checkExprText(t, p, sum, "(((0?1:2)?(0?1:2):(0?1:2))+1)")
	checkInvalidExpr(t, "17 nodes of selections", p, operation(impl.ExprAdd, sum, constant(1)))
}

func TestRepetitionCounts(t *testing.T) {
	for _, count := range []int{math.MinInt, -1, 0, 4, 5, 255, 257, 1 << 32, 1<<32 + 1, math.MaxInt} {
		checkInvalidProgram(t, "count "+strconv.Itoa(count), smallest(repeat(count)))
		checkInvalidProgram(t, "count "+strconv.Itoa(count), smallest(ifElse(constant(0), []impl.Stmt{repeat(count, repeat(1))}, nil)))
		checkNoProgram(t, "L//repeat"+strconv.Itoa(count)+"{}")
	}
	for _, count := range []string{"", "01", "1 ", "+1", "a", "(1+1)", "18446744073709551617", "1.", "00"} {
		checkNoProgram(t, "L//repeat"+count+"{}")
	}
}

func TestUnusedFields(t *testing.T) {
	one, kids := constant(1), impl.Expr{Kids: []impl.Expr{{}}}
	inner := []impl.Stmt{assign(0, constant(0))}
	rows := []struct {
		stmt   impl.Stmt
		unused string
	}{
		{assign(0, one), "index count body else"},
		{releaseTo(0, one), "index count body else"},
		{storeTo(0, one, one), "count body else"},
		{ifElse(one, nil, nil), "target index count"},
		{ifElse(one, inner, inner), "target index count"},
		{repeat(1), "target index value else"},
		{repeat(3, inner...), "target index value else"},
	}
	for _, row := range rows {
		p := impl.Program{Vars: []int{0, 0}, Arrays: []int{0, 0}, Body: []impl.Stmt{row.stmt}}
		if !impl.ProgramValid(p) {
			t.Errorf("%q is not valid", impl.FormatProgram(p))
		}
		for field := range strings.FieldsSeq(row.unused) {
			for _, spoiled := range spoiledStmts(row.stmt, field, one, kids, inner) {
				p.Body = []impl.Stmt{spoiled}
				checkInvalidProgram(t, "kind "+strconv.Itoa(row.stmt.Kind)+" with "+field, p)
				p.Body = []impl.Stmt{repeat(1, spoiled)}
				checkInvalidProgram(t, "an inner kind "+strconv.Itoa(row.stmt.Kind)+" with "+field, p)
			}
		}
		empty := row.stmt
		empty.Index.Kids, empty.Value.Kids = append([]impl.Expr{}, empty.Index.Kids...), append([]impl.Expr{}, empty.Value.Kids...)
		empty.Body, empty.Else = append([]impl.Stmt{}, empty.Body...), append([]impl.Stmt{}, empty.Else...)
		p.Body = []impl.Stmt{empty}
		if !impl.ProgramValid(p) {
			t.Errorf("kind %d is not valid with slices that are empty and not nil", row.stmt.Kind)
		}
	}
}

// spoiledStmts returns copies of s in which a field is not zero.
func spoiledStmts(s impl.Stmt, field string, one impl.Expr, kids impl.Expr, inner []impl.Stmt) []impl.Stmt {
	first, second, third := s, s, s
	switch field {
	case "target":
		first.Target, second.Target, third.Target = 1, -1, math.MinInt
	case "count":
		first.Count, second.Count, third.Count = 1, -1, math.MaxInt
	case "index":
		first.Index, second.Index, third.Index = one, kids, impl.Expr{Value: 1}
	case "value":
		first.Value, second.Value, third.Value = one, kids, impl.Expr{Value: 1}
	case "body":
		first.Body, second.Body, third.Body = inner, make([]impl.Stmt, 1), make([]impl.Stmt, 99)
	case "else":
		first.Else, second.Else, third.Else = inner, make([]impl.Stmt, 1), make([]impl.Stmt, 99)
	}
	return []impl.Stmt{first, second, third}
}

func TestInvalidStatements(t *testing.T) {
	p := impl.Program{Vars: []int{0, 1}, Arrays: []int{0}}
	for _, kind := range []int{0, -1, 6, 7, 255, 257, math.MaxInt, math.MinInt} {
		p.Body = []impl.Stmt{{Kind: kind}}
		checkInvalidProgram(t, "kind "+strconv.Itoa(kind), p)
		p.Body = []impl.Stmt{assign(0, constant(1)), {Kind: kind, Value: constant(1)}}
		checkInvalidProgram(t, "kind "+strconv.Itoa(kind), p)
	}
	for _, target := range []int{-1, 2, 3, 12, 256, math.MaxInt, math.MinInt} {
		for _, s := range []impl.Stmt{assign(target, constant(1)), releaseTo(target, constant(1)), storeTo(target, constant(0), constant(1))} {
			p.Body = []impl.Stmt{s}
			checkInvalidProgram(t, "target "+strconv.Itoa(target), p)
		}
	}
	p.Body = []impl.Stmt{storeTo(1, constant(0), constant(1))}
	checkInvalidProgram(t, "target 1 of 1 arrays", p)
	for _, s := range []impl.Stmt{{Kind: impl.StmtAssign}, {Kind: impl.StmtStore}, {Kind: impl.StmtIf}, {Kind: impl.StmtRepeat}, {Kind: impl.StmtRelease}, {}} {
		for _, body := range [][]impl.Stmt{{s}, {repeat(1, s)}, {ifElse(constant(1), []impl.Stmt{s}, nil)}, {ifElse(constant(1), nil, []impl.Stmt{s})}, {repeat(2), s}} {
			p.Body = body
			checkInvalidProgram(t, "kind "+strconv.Itoa(s.Kind)+" without fields", p)
		}
	}
}

func TestNumberOfStatements(t *testing.T) {
	sixty := slices.Repeat([]impl.Stmt{assign(0, constant(1))}, 60)
	checkProgramText(t, smallest(sixty...), "L//"+strings.Repeat("a:=1;", 60))
	checkInvalidProgram(t, "61 statements", smallest(slices.Repeat(sixty[:1], 61)...))
	checkNoProgram(t, "L//"+strings.Repeat("a:=1;", 61))
	inner := smallest(ifElse(constant(0), sixty[:29], sixty[:29]), repeat(1))
	checkProgramText(t, inner, "L//if0{"+strings.Repeat("a:=1;", 29)+"}{"+strings.Repeat("a:=1;", 29)+"}repeat1{}")
	if got := impl.CountStmts(inner); got != 60 {
		t.Errorf("CountStmts = %d, want 60", got)
	}
	for _, p := range []impl.Program{
		smallest(ifElse(constant(0), sixty[:30], sixty[:29]), repeat(1)),
		smallest(ifElse(constant(0), sixty[:29], sixty[:30]), repeat(1)),
		smallest(ifElse(constant(0), sixty[:29], sixty[:29]), repeat(1), repeat(2)),
		smallest(ifElse(constant(0), sixty[:29], sixty[:29]), repeat(1, repeat(2))),
		smallest(repeat(1, sixty...)),
		smallest(repeat(3, repeat(3, sixty[:59]...))),
	} {
		checkInvalidProgram(t, "61 inner statements", p)
	}
	checkNoProgram(t, "L//repeat1{"+strings.Repeat("a:=1;", 60)+"}")
	checkNoProgram(t, "L//if0{"+strings.Repeat("a:=1;", 30)+"}{"+strings.Repeat("a:=1;", 30)+"}")
	for n := range 61 {
		if got := impl.CountStmts(smallest(sixty[:n]...)); got != n {
			t.Errorf("CountStmts = %d, want %d", got, n)
		}
	}
}

// nestOf returns a statement with that depth, whose inner statements are in the Body, the Else or a repetition.
func nestOf(depth int, where string) impl.Stmt {
	if depth == 1 {
		return assign(0, constant(1))
	}
	inner := nestOf(depth-1, where)
	switch where {
	case "body":
		return ifElse(constant(1), []impl.Stmt{inner}, nil)
	case "else":
		return ifElse(constant(1), nil, []impl.Stmt{inner})
	}
	return repeat(1, inner)
}

func TestDepthOfStatements(t *testing.T) {
	checkProgramText(t, smallest(nestOf(5, "body")), "L//if1{if1{if1{if1{a:=1;}{}}{}}{}}{}")
	checkProgramText(t, smallest(nestOf(5, "else")), "L//if1{}{if1{}{if1{}{if1{}{a:=1;}}}}")
	checkProgramText(t, smallest(nestOf(5, "repeat")), "L//repeat1{repeat1{repeat1{repeat1{a:=1;}}}}")
	for _, where := range []string{"body", "else", "repeat"} {
		checkInvalidProgram(t, "depth 6 in "+where, smallest(nestOf(6, where)))
		checkInvalidProgram(t, "depth 6 in "+where, smallest(nestOf(2, where), nestOf(6, where)))
	}
	checkNoProgram(t, "L//if1{if1{if1{if1{if1{a:=1;}{}}{}}{}}{}}{}")
	checkNoProgram(t, "L//if1{}{if1{}{if1{}{if1{}{if1{}{a:=1;}}}}}")
	checkNoProgram(t, "L//repeat1{repeat1{repeat1{repeat1{repeat1{}}}}}}")
	checkNoProgram(t, "L//repeat1{repeat1{repeat1{repeat1{repeat1{a:=1;}}}}}")
	checkProgramText(t, smallest(nestOf(4, "repeat"), repeat(2, nestOf(4, "body"))), "L//repeat1{repeat1{repeat1{a:=1;}}}repeat2{if1{if1{if1{a:=1;}{}}{}}{}}")
}

func TestProgramWritesAndCountStmts(t *testing.T) {
	rows := []struct {
		text   string
		vars   string
		arrays string
		count  int
	}{
		{"LHL/HL/a:=(P[c]+1);ifb{repeat2{Q[3]:=(b?a:c);}}{c!=(b=0);}", "101", "01", 5},
		{"LHL/HL/b:=P[a];", "010", "00", 1},
		{"LHL/HL/ifa{}{repeat1{c!=0;P[c]:=a;}}", "001", "10", 4},
		{"LHL/HL/ifa{b:=1;b:=1;}{b:=2;}", "010", "00", 4},
		{"LHL//repeat1{repeat2{repeat3{}}}", "000", "", 3},
		{"LLLLLLLLLLLL/LL/l:=a;P[b]:=c;Q[d]:=e;f!=g;", "000001000001", "11", 4},
		{"L//a:=0;", "1", "", 1},
	}
	for _, row := range rows {
		p := parsed(t, row.text)
		vars, arrays := impl.ProgramWrites(p)
		if marks(vars) != row.vars || marks(arrays) != row.arrays {
			t.Errorf("ProgramWrites of %q = %s, %s, want %s, %s", row.text, marks(vars), marks(arrays), row.vars, row.arrays)
		}
		if got := impl.CountStmts(p); got != row.count {
			t.Errorf("CountStmts of %q = %d, want %d", row.text, got, row.count)
		}
	}
}

// marks writes a list of truths as zeros and ones.
func marks(list []bool) string {
	text := make([]byte, len(list))
	for i, mark := range list {
		text[i] = '0'
		if mark {
			text[i] = '1'
		}
	}
	return string(text)
}

func TestTextsOfNoProgram(t *testing.T) {
	for _, n := range []string{"01", "00", "000", "0255", "256", "257", "300", "1000", "2550", "99999", "4294967297", "18446744073709551616", "18446744073709551617", "-1", "-0", "+1", "1.0", "0x1", "1_0", "", " 1", "1 ", "\uff11", "\u0661"} {
		for _, form := range []string{"a:=#;", "a!=#;", "a:=(#+1);", "a:=(1+#);", "a:=(1?2:#);", "a:=P[#];", "P[#]:=1;", "P[1]:=#;", "if#{}{}", "repeat2{a:=#;}"} {
			checkNoProgram(t, "LL/L/"+strings.ReplaceAll(form, "#", n))
		}
	}
	for _, name := range []string{"c", "l", "m", "z", "A", "Q[0]", "R[0]", "O[0]", "P", "P[c]", "p[0]", "_", "\u0430"} {
		for _, form := range []string{"a:=#;", "#:=1;", "#!=1;", "a:=(#*1);", "if#{}{}"} {
			checkNoProgram(t, "LL/L/"+strings.ReplaceAll(form, "#", name))
		}
	}
	for _, text := range []string{"a:=P[0];", "P[0]:=1;", "b:=1;", "a:=b;", "a!=b;", "ifb{}{}", "a:=(a+b);"} {
		checkNoProgram(t, "L//"+text)
	}
	for _, text := range []string{"P[0]!=1;", "a=1;", "a:1;", "a:=1", "a:=;", "a :=1;", "a:= 1;", "a:=(1);", "a:=1+1;", "a:=(1+1;", "a:=1+1);", "a:=(1/1);", "a:=(1>1);", "a:=(1!=1);", "a:=(1?2);", "a:=(1?2:3:4);", "a:=(1+2:3);", "a:=(1?2+3);", "a:=(1+1+1);", "a:=();", "a:=(1+);", "a:=(+1);", "a:=P();", "a:=P[];", "a:=P[0;", "a:=P0];", "a:=[0];", "a:=P[0]]];", "a:=P[0][0];", "P:=1;", "a:=a[0];"} {
		checkNoProgram(t, "LL/L/"+text)
	}
	for _, text := range []string{"if{}{}", "ifa{}", "ifa", "if a{}{}", "ifa {}{}", "ifa{} {}", "ifa{};{}", "ifa{}{};", "ifa{}{}{}", "ifa{}else{}", "ifab{}{}", "If a{}{}", "repeat{}", "repeat1", "repeat1{}{}", "repeat1{};", "repeat1;", "Repeat1{}", "repeat 1{}", "{}", "{a:=1;}", ";", "a:=1;;", "}", "{", "a", "i", "r", "if", "repeat"} {
		checkNoProgram(t, "LL/L/"+text)
		checkNoProgram(t, "LL/L/repeat1{"+text+"}")
	}
}

// fullText has every kind of statement and of expression in one statement on top.
const fullText = "LHUXLHUXLHUX/HU/repeat3{a:=(P[c]+1);if((b-2)=(12*l)){repeat2{Q[3]:=(b?a:c);}}{c!=(k<255);Q[i]:=((f&7)^P[0]);}}"

func TestTextCutOffAtEveryByte(t *testing.T) {
	declarations := strings.LastIndexByte(fullText, '/') + 1
	for end := range len(fullText) + 1 {
		cut := fullText[:end]
		if end == declarations || end == len(fullText) {
			if got := impl.FormatProgram(parsed(t, cut)); got != cut {
				t.Errorf("%q is formatted as %q", cut, got)
			}
			continue
		}
		checkNoProgram(t, cut)
	}
	for start := 1; start < len(fullText); start++ {
		checkReadBack(t, fullText[start:])
	}
}

func TestAnythingBehindTheLastStatement(t *testing.T) {
	for c := range 256 {
		checkNoProgram(t, fullText+string([]byte{byte(c)}))
		checkNoProgram(t, "L//a:=1;"+string([]byte{byte(c)}))
	}
	for _, rest := range []string{"}", "}}", ";", " ", "\n", "\x00", "/", "//", "a", "a:=1", "L//", "L//a:=1;", "{}", "repeat", "}a:=1;", "if"} {
		checkNoProgram(t, fullText+rest)
		checkNoProgram(t, "L//"+rest+"a:=1;"+rest)
	}
	checkNoProgram(t, fullText+fullText)
}

// checkReadBack checks that a text is that of the program that is read from it, if there is one.
func checkReadBack(t *testing.T, text string) {
	t.Helper()
	p, ok := impl.ParseProgram(text)
	if !ok {
		if !isZeroProgram(p) {
			t.Errorf("ParseProgram(%q) = %v, false", text, p)
		}
		return
	}
	if got := impl.FormatProgram(p); got != text {
		t.Errorf("ParseProgram accepts %q and FormatProgram returns %q", text, got)
	}
}

func TestChangedTextsAreReadBack(t *testing.T) {
	for _, text := range []string{fullText, "LH/L/ifb{a:=1;}{}", "LL/LH/P[1]:=(a?10:Q[b]);a!=0;repeat1{}if0{b:=P[9];}{repeat2{}}"} {
		for at := range len(text) {
			checkReadBack(t, text[:at]+text[at+1:])
			for c := range 256 {
				changed := string([]byte{byte(c)})
				checkReadBack(t, text[:at]+changed+text[at+1:])
				checkReadBack(t, text[:at]+changed+text[at:])
			}
			for other := range len(text) {
				checkReadBack(t, text[:at]+text[other:])
			}
		}
	}
}

// source is a fixed sequence of numbers that look random.
type source uint64

// below returns the next number, which is less than n.
func (s *source) below(n int) int {
	*s = *s*6364136223846793005 + 1442695040888963407
	return int(uint64(*s) >> 33 % uint64(n))
}

// someExpr returns a valid expression with at most that depth.
func (s *source) someExpr(p impl.Program, depth int) impl.Expr {
	simple := []impl.Expr{constant(s.below(256)), constant(s.below(5)), variable(s.below(len(p.Vars)))}
	kind := impl.ExprRead + s.below(11)
	switch {
	case depth == 1 || kind > impl.ExprSelect || kind == impl.ExprRead && len(p.Arrays) == 0:
		return simple[s.below(3)]
	case kind == impl.ExprRead:
		return read(s.below(len(p.Arrays)), simple[s.below(3)])
	case kind == impl.ExprSelect:
		return operation(kind, s.someExpr(p, depth-1), s.someExpr(p, depth-1), s.someExpr(p, depth-1))
	}
	return operation(kind, s.someExpr(p, depth-1), s.someExpr(p, depth-1))
}

// someBlock returns valid statements with at most that depth.
func (s *source) someBlock(p impl.Program, depth int) []impl.Stmt {
	var list []impl.Stmt
	for range s.below(4) {
		kind := 1 + s.below(5)
		v, e := s.below(len(p.Vars)), s.someExpr(p, 3)
		switch {
		case kind == impl.StmtStore && len(p.Arrays) > 0:
			list = append(list, storeTo(s.below(len(p.Arrays)), s.someExpr(p, 1), e))
		case kind == impl.StmtIf && depth > 1:
			list = append(list, ifElse(e, s.someBlock(p, depth-1), s.someBlock(p, depth-1)))
		case kind == impl.StmtRepeat && depth > 1:
			list = append(list, repeat(1+s.below(3), s.someBlock(p, depth-1)...))
		case kind == impl.StmtRelease:
			list = append(list, releaseTo(v, e))
		default:
			list = append(list, assign(v, e))
		}
	}
	return list
}

// someProgram returns a valid program with at most that many variables.
func (s *source) someProgram(vars int) impl.Program {
	for {
		p := impl.Program{Vars: make([]int, 1+s.below(vars)), Arrays: make([]int, s.below(3))}
		for i := range p.Vars {
			p.Vars[i] = s.below(4)
		}
		for i := range p.Arrays {
			p.Arrays[i] = s.below(4)
		}
		p.Body = s.someBlock(p, 4)
		if impl.ProgramValid(p) {
			return p
		}
	}
}

func TestProgramsAreReadBack(t *testing.T) {
	numbers := source(1)
	seen := map[string]impl.Program{}
	for range 3000 {
		p := numbers.someProgram(12)
		text := impl.FormatProgram(p)
		checkProgramText(t, p, text)
		if other, ok := seen[text]; ok && !equalPrograms(p, other) {
			t.Errorf("two programs have the text %q", text)
		}
		seen[text] = p
		for _, s := range p.Body {
			checkReadBack(t, impl.FormatLabels(p.Vars)+"/"+impl.FormatLabels(p.Arrays)+"/"+impl.FormatExpr(p, s.Value))
		}
	}
	if len(seen) < 1000 {
		t.Errorf("only %d programs were tried", len(seen))
	}
}

func TestSameExpressions(t *testing.T) {
	list := []impl.Expr{{}, {Kind: 1}, {Kind: -1}, {Value: 1}, {Kind: 1, Value: 1}, {Kids: make([]impl.Expr, 1)}, {Kids: make([]impl.Expr, 2)}, {Kids: []impl.Expr{{Kind: 1}}}, {Kids: []impl.Expr{{}, {Kind: 1}}}, {Kids: []impl.Expr{{Kind: 1}, {}}}, {Kids: []impl.Expr{{Kids: make([]impl.Expr, 1)}}}, {Kids: []impl.Expr{{Kids: []impl.Expr{{Value: 7}}}}}}
	p := impl.Program{Vars: []int{0, 1, 2}, Arrays: []int{0, 1}}
	numbers := source(2)
	for range 60 {
		list = append(list, numbers.someExpr(p, 3))
	}
	for i, a := range list {
		for j, b := range list {
			want := equalExprs(a, b)
			if got := impl.ExprSame(a, b); got != want {
				t.Errorf("ExprSame is %v for %d and %d: %v, %v", got, i, j, a, b)
			}
		}
	}
	if !impl.ExprSame(impl.Expr{Kids: []impl.Expr{}}, impl.Expr{}) || !impl.ExprSame(impl.Expr{}, impl.Expr{Kids: []impl.Expr{}}) {
		t.Error("ExprSame tells nil from empty")
	}
	wide := slices.Repeat([]impl.Expr{constant(1)}, 1000)
	if !impl.ExprSame(operation(99, wide...), operation(99, slices.Clone(wide)...)) || impl.ExprSame(operation(99, wide...), operation(99, wide[1:]...)) {
		t.Error("ExprSame is wrong for 1000 operands")
	}
}

// changedPrograms returns copies of p with one difference each, some of them not valid.
func changedPrograms(p impl.Program) []impl.Program {
	var list []impl.Program
	change := func(f func(p *impl.Program)) {
		q := clonedProgram(p)
		f(&q)
		list = append(list, q)
	}
	change(func(q *impl.Program) { q.Vars[0]++ })
	change(func(q *impl.Program) { q.Vars = append(q.Vars, 0) })
	change(func(q *impl.Program) { q.Vars = q.Vars[1:] })
	change(func(q *impl.Program) { q.Arrays[0] = -5 })
	change(func(q *impl.Program) { q.Arrays = nil })
	change(func(q *impl.Program) { q.Vars, q.Arrays = q.Arrays, q.Vars })
	change(func(q *impl.Program) { q.Body = nil })
	change(func(q *impl.Program) { q.Body = append(q.Body, impl.Stmt{}) })
	for i := range p.Body {
		change(func(q *impl.Program) { q.Body = q.Body[:i] })
		for _, f := range stmtChanges {
			change(func(q *impl.Program) { f(&q.Body[i]) })
			if len(p.Body[i].Body) > 0 {
				change(func(q *impl.Program) { f(&q.Body[i].Body[0]) })
			}
			if len(p.Body[i].Else) > 0 {
				change(func(q *impl.Program) { f(&q.Body[i].Else[0]) })
			}
		}
	}
	return list
}

var stmtChanges = []func(s *impl.Stmt){
	func(s *impl.Stmt) { s.Kind++ },
	func(s *impl.Stmt) { s.Target-- },
	func(s *impl.Stmt) { s.Count += 256 },
	func(s *impl.Stmt) { s.Index.Kind++ },
	func(s *impl.Stmt) { s.Index.Value++ },
	func(s *impl.Stmt) { s.Index.Kids = append(s.Index.Kids, impl.Expr{}) },
	func(s *impl.Stmt) { s.Value.Kind-- },
	func(s *impl.Stmt) { s.Value.Value = math.MinInt },
	func(s *impl.Stmt) { s.Value.Kids = append(s.Value.Kids, constant(1)) },
	func(s *impl.Stmt) { s.Body = append(s.Body, impl.Stmt{}) },
	func(s *impl.Stmt) { s.Else = append(s.Else, impl.Stmt{}) },
}

func clonedExpr(e impl.Expr) impl.Expr {
	e.Kids = slices.Clone(e.Kids)
	for i := range e.Kids {
		e.Kids[i] = clonedExpr(e.Kids[i])
	}
	return e
}

func clonedBlock(list []impl.Stmt) []impl.Stmt {
	list = slices.Clone(list)
	for i, s := range list {
		list[i].Index, list[i].Value = clonedExpr(s.Index), clonedExpr(s.Value)
		list[i].Body, list[i].Else = clonedBlock(s.Body), clonedBlock(s.Else)
	}
	return list
}

func clonedProgram(p impl.Program) impl.Program {
	return impl.Program{Vars: slices.Clone(p.Vars), Arrays: slices.Clone(p.Arrays), Body: clonedBlock(p.Body)}
}

func TestSamePrograms(t *testing.T) {
	p := parsed(t, "LHL/HL/a:=(P[c]+1);ifb{repeat2{Q[3]:=(b?a:c);}a:=1;}{c!=(b=0);}Q[1]:=0;")
	if !impl.ProgramSame(p, p) || !impl.ProgramSame(p, clonedProgram(p)) {
		t.Error("ProgramSame is false for a copy")
	}
	list := append(changedPrograms(p), p, impl.Program{})
	for i, a := range list {
		for j, b := range list {
			want := equalPrograms(a, b)
			if got := impl.ProgramSame(a, b); got != want {
				t.Errorf("ProgramSame is %v for %d and %d: %v, %v", got, i, j, a, b)
			}
		}
	}
	empty := impl.Program{Vars: []int{}, Arrays: []int{}, Body: []impl.Stmt{{Body: []impl.Stmt{}, Else: []impl.Stmt{}, Index: impl.Expr{Kids: []impl.Expr{}}}}}
	if !impl.ProgramSame(empty, impl.Program{Body: make([]impl.Stmt, 1)}) || !impl.ProgramSame(impl.Program{Body: make([]impl.Stmt, 1)}, empty) {
		t.Error("ProgramSame tells nil from empty")
	}
	if impl.ProgramSame(impl.Program{Body: []impl.Stmt{repeat(1, repeat(2))}}, impl.Program{Body: []impl.Stmt{{Kind: impl.StmtRepeat, Count: 1, Else: []impl.Stmt{repeat(2)}}}}) {
		t.Error("ProgramSame takes Else for Body")
	}
}

const veryDeep = 1 << 18

// deepExpr returns an expression that is far deeper than any that is valid.
func deepExpr(bottom int) impl.Expr {
	e := constant(bottom)
	for range veryDeep {
		e = impl.Expr{Kind: impl.ExprRead, Kids: []impl.Expr{e}}
	}
	return e
}

func deepStmt(bottom int) impl.Stmt {
	s := repeat(bottom)
	for i := range veryDeep {
		if i%2 == 0 {
			s = repeat(1, s)
		} else {
			s = ifElse(constant(1), nil, []impl.Stmt{s})
		}
	}
	return s
}

func TestDeepArguments(t *testing.T) {
	p := impl.Program{Vars: []int{0}, Arrays: []int{0}}
	e := deepExpr(1)
	checkInvalidExpr(t, "a very deep expression", p, e)
	if !impl.ExprSame(e, deepExpr(1)) || impl.ExprSame(e, deepExpr(2)) || impl.ExprSame(e, e.Kids[0]) {
		t.Error("ExprSame is wrong for very deep expressions")
	}
	s := deepStmt(1)
	checkInvalidProgram(t, "a very deep statement", smallest(s))
	if !impl.ProgramSame(smallest(s), smallest(deepStmt(1))) || impl.ProgramSame(smallest(s), smallest(deepStmt(2))) {
		t.Error("ProgramSame is wrong for very deep statements")
	}
	if !impl.ProgramSame(smallest(assign(0, e)), smallest(assign(0, deepExpr(1)))) || impl.ProgramSame(smallest(assign(0, e)), smallest(assign(0, deepExpr(2)))) {
		t.Error("ProgramSame is wrong for very deep expressions")
	}
	wide := slices.Repeat([]impl.Stmt{repeat(1)}, veryDeep)
	checkInvalidProgram(t, "very many statements", smallest(wide...))
	checkInvalidProgram(t, "very many inner statements", smallest(ifElse(constant(1), wide, wide)))
	checkInvalidExpr(t, "very many operands", p, operation(impl.ExprAdd, slices.Repeat([]impl.Expr{constant(1)}, veryDeep)...))
	checkInvalidProgram(t, "very many declarations", impl.Program{Vars: make([]int, veryDeep), Arrays: make([]int, veryDeep)})
}

func TestDeepTexts(t *testing.T) {
	for _, piece := range []string{"(", "((1+", "P[", "if", "if1{", "repeat1{", "repeat", "{", "}", ";", "1", "0", "a:=", "a:=1;", "a:=(", "P[0]:=", "a", "L", "/", "if1{}{", "(1?1:", "a:=1;}"} {
		many := strings.Repeat(piece, 1<<18)
		for _, front := range []string{"", "L//", "L//a:=", "L/L/P[", "L//repeat1{", "L//a:=(1+"} {
			checkNoProgram(t, front+many)
		}
	}
}

func TestVeryDeepTexts(t *testing.T) {
	for _, piece := range []string{"(", "(1?1:", "P[", "if(", "if1{", "if1{}{", "repeat1{", "repeat1{repeat1{}"} {
		checkNoProgram(t, "L/L/"+strings.Repeat(piece, 1<<23))
		checkNoProgram(t, "L/L/a:="+strings.Repeat(piece, 1<<23))
	}
}

func TestSharedAndCircularArguments(t *testing.T) {
	shared, otherShared := constant(1), constant(1)
	for range 200 {
		shared = operation(impl.ExprAdd, shared, shared)
		otherShared = operation(impl.ExprAdd, otherShared, otherShared)
	}
	circle := circularExpr(1)
	if !impl.ExprSame(shared, otherShared) || impl.ExprSame(shared, shared.Kids[0]) || impl.ExprSame(shared, circle) {
		t.Error("ExprSame is wrong for expressions that use a slice many times")
	}
	if !impl.ExprSame(circle, circularExpr(1)) || impl.ExprSame(circle, circularExpr(2)) || !impl.ExprSame(circle, circle.Kids[0]) || !impl.ExprSame(circularExpr(1), circle.Kids[0].Kids[0]) {
		t.Error("ExprSame is wrong for expressions that contain themselves")
	}
	p := impl.Program{Vars: []int{0}, Arrays: []int{0}}
	checkInvalidExpr(t, "an expression that contains itself", p, circle)
	checkInvalidExpr(t, "an expression that uses a slice many times", p, shared)
	round, otherRound, different := circularStmt(1), circularStmt(1), circularStmt(2)
	if !impl.ProgramSame(smallest(round), smallest(otherRound)) || impl.ProgramSame(smallest(round), smallest(different)) {
		t.Error("ProgramSame is wrong for programs that contain themselves")
	}
	checkInvalidProgram(t, "a program that contains itself", smallest(round))
}

func circularExpr(value int) impl.Expr {
	kids := make([]impl.Expr, 2)
	kids[0] = impl.Expr{Kind: impl.ExprAdd, Kids: kids}
	kids[1] = impl.Expr{Kind: impl.ExprConst, Value: value}
	return kids[0]
}

func circularStmt(count int) impl.Stmt {
	body := make([]impl.Stmt, 3)
	body[0] = ifElse(circularExpr(1), body[1:], body[:2])
	body[1] = repeat(1, body...)
	body[1].Body = body
	body[2] = repeat(count)
	return body[0]
}

// overwriteExpr changes everything that e reaches, including unused capacity.
func overwriteExpr(e *impl.Expr) {
	kids := e.Kids[:cap(e.Kids)]
	for i := range kids {
		overwriteExpr(&kids[i])
	}
	e.Kind, e.Value = 77, -77
}

func overwriteBlock(list []impl.Stmt) {
	list = list[:cap(list)]
	for i := range list {
		overwriteExpr(&list[i].Index)
		overwriteExpr(&list[i].Value)
		overwriteBlock(list[i].Body)
		overwriteBlock(list[i].Else)
		list[i].Kind, list[i].Target, list[i].Count = 77, -77, 77
	}
}

func overwriteProgram(p impl.Program) {
	for _, list := range [][]int{p.Vars, p.Arrays} {
		list = list[:cap(list)]
		for i := range list {
			list[i] = 77
		}
	}
	overwriteBlock(p.Body)
}

// fillSpareExpr changes the unused capacity of every slice that e reaches, and nothing else.
func fillSpareExpr(e impl.Expr) {
	for i := range e.Kids {
		fillSpareExpr(e.Kids[i])
	}
	for i := len(e.Kids); i < cap(e.Kids); i++ {
		e.Kids[:cap(e.Kids)][i] = constant(77)
	}
}

func fillSpareBlock(list []impl.Stmt) {
	for _, s := range list {
		fillSpareExpr(s.Index)
		fillSpareExpr(s.Value)
		fillSpareBlock(s.Body)
		fillSpareBlock(s.Else)
	}
	for i := len(list); i < cap(list); i++ {
		list[:cap(list)][i] = repeat(77)
	}
}

func fillSpareProgram(p impl.Program) {
	for _, list := range [][]int{p.Vars, p.Arrays} {
		for i := len(list); i < cap(list); i++ {
			list[:cap(list)][i] = 77
		}
	}
	fillSpareBlock(p.Body)
}

func TestProgramResultsShareNoMemory(t *testing.T) {
	first, second := parsed(t, fullText), parsed(t, fullText)
	fillSpareProgram(first)
	if impl.FormatProgram(first) != fullText {
		t.Error("the unused capacity of a program is used by another of its slices")
	}
	overwriteProgram(first)
	third := parsed(t, fullText)
	if impl.FormatProgram(second) != fullText || impl.FormatProgram(third) != fullText {
		t.Error("programs from one text share memory")
	}
	vars, arrays := impl.ProgramWrites(second)
	want, wantArrays := marks(vars), marks(arrays)
	for _, list := range [][]bool{vars, arrays} {
		list = list[:cap(list)]
		for i := range list {
			list[i] = !list[i]
		}
	}
	again, againArrays := impl.ProgramWrites(second)
	if marks(again) != want || marks(againArrays) != wantArrays || impl.FormatProgram(second) != fullText {
		t.Error("the results of ProgramWrites share memory with something")
	}
	vars = append(again, true)
	if marks(againArrays) != wantArrays || len(vars) != 13 {
		t.Error("the results of ProgramWrites share memory with each other")
	}
}

func TestProgramArgumentsAreKept(t *testing.T) {
	letters := []byte(fullText)
	p, ok := impl.ParseProgram(string(letters))
	p.Vars, p.Arrays, p.Body = slices.Grow(p.Vars, 3), slices.Grow(p.Arrays, 3), slices.Grow(p.Body, 3)
	fillSpareProgram(p)
	kept := clonedProgram(p)
	e := p.Body[0].Body[0].Value
	text := impl.FormatProgram(p)
	if !ok || text != fullText || impl.FormatExpr(p, e) != "(P[c]+1)" || !impl.ExprValid(p, e) || !impl.ProgramValid(p) || impl.CountStmts(p) != 7 {
		t.Errorf("a result for %q is wrong", fullText)
	}
	impl.ProgramWrites(p)
	if !impl.ProgramSame(p, kept) || !impl.ExprSame(e, e) || !reflect.DeepEqual(p, kept) {
		t.Error("a function changed its argument")
	}
	if p.Vars[:13][12] != 77 || p.Arrays[:3][2] != 77 || p.Body[:2][1].Count != 77 {
		t.Error("a function changed what is beyond its argument")
	}
	overwriteProgram(p)
	if text != fullText {
		t.Errorf("the text is %q after its program was changed", text)
	}
}
