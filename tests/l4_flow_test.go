package tests

import (
	"reflect"
	"slices"
	"strconv"
	"strings"
	"sync"
	"testing"

	"loop.example/constanttime/impl"
)

// resultText writes the two results of a check: "fine", or a word and the number of a statement.
// A number that a result must not have is written too.
func resultText(result int, number int) string {
	words := []string{"fine", "assign", "release", "branch", "address", "invalid"}
	if result < 0 || result >= len(words) {
		return "result " + strconv.Itoa(result)
	}
	if number == -1 && (result == 0 || result == 5) {
		return words[result]
	}
	return words[result] + " " + strconv.Itoa(number)
}

// labelsText writes the labels of a program.
func labelsText(p impl.Program) string {
	return impl.FormatLabels(p.Vars) + "/" + impl.FormatLabels(p.Arrays)
}

// checkResults checks what CheckFlow and CheckConstantTime return for a program.
func checkResults(t *testing.T, text string, flow string, strict string) {
	t.Helper()
	p := parsed(t, text)
	if got := resultText(impl.CheckFlow(p)); got != flow {
		t.Errorf("CheckFlow of %q = %s, want %s", text, got, flow)
	}
	if got := resultText(impl.CheckConstantTime(p)); got != strict {
		t.Errorf("CheckConstantTime of %q = %s, want %s", text, got, strict)
	}
}

// checkInferred checks the labels that InferLabels finds, and that nothing else is changed.
func checkInferred(t *testing.T, text string, labels string) {
	t.Helper()
	p := parsed(t, text)
	got, ok := impl.InferLabels(p)
	want := parsed(t, labels+"/")
	want.Body = p.Body
	if !ok || !equalPrograms(got, want) {
		t.Errorf("InferLabels of %q = %s, %v, want %s", text, impl.FormatProgram(got), ok, labels)
	}
}

// checkNotInferred checks that InferLabels finds no labels.
func checkNotInferred(t *testing.T, text string) {
	t.Helper()
	if got, ok := impl.InferLabels(parsed(t, text)); ok || !isZeroProgram(got) {
		t.Errorf("InferLabels of %q = %v, %v", text, got, ok)
	}
}

// checkInvalidFlow checks the results of all functions for a program that is not valid.
func checkInvalidFlow(t *testing.T, what string, p impl.Program) {
	t.Helper()
	if got := resultText(impl.CheckFlow(p)); got != "invalid" {
		t.Errorf("%s: CheckFlow = %s", what, got)
	}
	if got := resultText(impl.CheckConstantTime(p)); got != "invalid" {
		t.Errorf("%s: CheckConstantTime = %s", what, got)
	}
	if impl.ReleaseFree(p) {
		t.Errorf("%s: ReleaseFree is true", what)
	}
	if got, ok := impl.InferLabels(p); ok || !isZeroProgram(got) {
		t.Errorf("%s: InferLabels = %v, %v", what, got, ok)
	}
	for _, l := range allNumbers() {
		if got, ok := impl.RaiseLabels(p, l); ok || !isZeroProgram(got) {
			t.Errorf("%s: RaiseLabels with %d = %v, %v", what, l, got, ok)
		}
	}
}

// dataMarks are the two properties of a label that the definitions of this chapter use.
type dataMarks struct {
	secret    bool
	untrusted bool
}

func marksOf(l int) dataMarks { return dataMarks{labelTable[l].secret, !labelTable[l].trusted} }

func (m dataMarks) and(n dataMarks) dataMarks {
	return dataMarks{m.secret || n.secret, m.untrusted || n.untrusted}
}

func (m dataMarks) mayFlowTo(l int) bool {
	to := marksOf(l)
	return (to.secret || !m.secret) && (to.untrusted || !m.untrusted)
}

// exprMarks is the definition of the label of a valid expression.
func exprMarks(p impl.Program, e impl.Expr) dataMarks {
	var m dataMarks
	switch e.Kind {
	case impl.ExprVar:
		m = marksOf(p.Vars[e.Value])
	case impl.ExprRead:
		m = marksOf(p.Arrays[e.Value])
	}
	for _, kid := range e.Kids {
		m = m.and(exprMarks(p, kid))
	}
	return m
}

// readsAtSecret reports whether a read in a valid expression has an operand with a secret label.
func readsAtSecret(p impl.Program, e impl.Expr) bool {
	return e.Kind == impl.ExprRead && exprMarks(p, e.Kids[0]).secret ||
		slices.ContainsFunc(e.Kids, func(kid impl.Expr) bool { return readsAtSecret(p, kid) })
}

// plainResults returns which results each statement has, in the order of their numbers.
func plainResults(p impl.Program, list []impl.Stmt, context dataMarks) [][]int {
	var all [][]int
	for _, s := range list {
		value, index, inner := exprMarks(p, s.Value), exprMarks(p, s.Index), context
		var has []int
		switch {
		case s.Kind == impl.StmtAssign && !value.and(context).mayFlowTo(p.Vars[s.Target]):
			has = append(has, impl.FlowAssign)
		case s.Kind == impl.StmtStore && !value.and(index).and(context).mayFlowTo(p.Arrays[s.Target]):
			has = append(has, impl.FlowAssign)
		case s.Kind == impl.StmtRelease && (value.untrusted || context != dataMarks{}):
			has = append(has, impl.FlowRelease)
		case s.Kind == impl.StmtIf:
			inner = context.and(value)
			if value.secret {
				has = append(has, impl.FlowBranch)
			}
		}
		if s.Kind == impl.StmtStore && index.secret || readsAtSecret(p, s.Value) {
			has = append(has, impl.FlowAddress)
		}
		all = append(all, has)
		all = append(all, plainResults(p, s.Body, inner)...)
		all = append(all, plainResults(p, s.Else, inner)...)
	}
	return all
}

// firstResult writes the first of two results that a statement has, or "fine".
func firstResult(all [][]int, one int, other int) string {
	for number, has := range all {
		for _, result := range []int{one, other} {
			if slices.Contains(has, result) {
				return resultText(result, number)
			}
		}
	}
	return "fine"
}

// plainChecks writes what CheckFlow and CheckConstantTime must return for a valid program.
func plainChecks(p impl.Program) (string, string) {
	all := plainResults(p, p.Body, dataMarks{})
	flow := firstResult(all, impl.FlowAssign, impl.FlowRelease)
	if flow != "fine" {
		return flow, flow
	}
	return flow, firstResult(all, impl.FlowBranch, impl.FlowAddress)
}

// relabelings returns p with every choice of labels.
func relabelings(p impl.Program) []impl.Program {
	var list []impl.Program
	places := len(p.Vars) + len(p.Arrays)
	for _, labels := range labelLists(places) {
		if len(labels) == places {
			list = append(list, impl.Program{Vars: labels[:len(p.Vars)], Arrays: labels[len(p.Vars):], Body: p.Body})
		}
	}
	return list
}

// mostlyPublic makes most labels of a program public and trusted, so that fewer of its statements are wrong.
func (s *source) mostlyPublic(p impl.Program) impl.Program {
	p = clonedProgram(p)
	for _, list := range [][]int{p.Vars, p.Arrays} {
		for i := range list {
			list[i] = []int{0, 0, 0, 0, 0, 1, 2, 3}[s.below(8)]
		}
	}
	return p
}

// withoutReleases makes assignments of all releases.
func withoutReleases(list []impl.Stmt) []impl.Stmt {
	list = slices.Clone(list)
	for i := range list {
		if list[i].Kind == impl.StmtRelease {
			list[i].Kind = impl.StmtAssign
		}
		list[i].Body, list[i].Else = withoutReleases(list[i].Body), withoutReleases(list[i].Else)
	}
	return list
}

func TestNumbersOfResults(t *testing.T) {
	got := []int{impl.FlowFine, impl.FlowAssign, impl.FlowRelease, impl.FlowBranch, impl.FlowAddress, impl.FlowInvalid}
	if !slices.Equal(got, []int{0, 1, 2, 3, 4, 5}) {
		t.Errorf("the results are %v", got)
	}
}

func TestLabelsOfExpressions(t *testing.T) {
	texts := map[string]string{
		"7": "L", "0": "L", "a": "L", "b": "H", "c": "U", "d": "X", "(1+2)": "L", "((1=2)?3:(4<5))": "L",
		"P[0]": "H", "Q[0]": "U", "P[a]": "H", "P[b]": "H", "P[c]": "X", "P[d]": "X", "Q[a]": "U", "Q[b]": "X", "Q[c]": "U", "Q[d]": "X",
		"(a+a)": "L", "(a+b)": "H", "(b+a)": "H", "(b-c)": "X", "(c*b)": "X", "(c&a)": "U", "(1^c)": "U", "(b=b)": "H", "(d<a)": "X", "(a<d)": "X",
		"(b?a:a)": "H", "(a?b:a)": "H", "(a?a:b)": "H", "(c?a:a)": "U", "(a?c:a)": "U", "(a?a:c)": "U", "(b?c:a)": "X", "(a?b:c)": "X", "(c?1:b)": "X", "(1?2:3)": "L",
		"(0*b)": "H", "(b-b)": "H", "(0?d:1)": "X", "(1+(2+(3+(4+c))))": "U", "((((b+1)+2)+3)+4)": "H", "(1+(2+(3+P[0])))": "H", "(Q[1]?P[2]:0)": "X",
	}
	for text, letter := range texts {
		p := parsed(t, "LHUX/HU/a:="+text+";")
		if got := impl.FormatLabels([]int{impl.ExprLabel(p, p.Body[0].Value)}); got != letter {
			t.Errorf("the label of %s is %s, want %s", text, got, letter)
		}
	}
}

func TestLabelsOfEveryKindOfExpression(t *testing.T) {
	for _, p := range relabelings(impl.Program{Vars: make([]int, 3), Arrays: make([]int, 1)}) {
		list := []impl.Expr{constant(0), constant(255), variable(0), variable(1), variable(2), read(0, constant(3)), read(0, variable(2))}
		for kind := impl.ExprAdd; kind < impl.ExprSelect; kind++ {
			list = append(list, operation(kind, variable(0), variable(1)), operation(kind, constant(1), read(0, variable(1))))
		}
		list = append(list, operation(impl.ExprSelect, variable(0), variable(1), variable(2)), operation(impl.ExprSelect, read(0, constant(0)), constant(1), constant(2)))
		for _, e := range list {
			want := exprMarks(p, e)
			if got := impl.ExprLabel(p, e); !isLabel(got) || marksOf(got) != want {
				t.Errorf("with the labels %s, the label of %s is %d, want %v", labelsText(p), impl.FormatExpr(p, e), got, want)
			}
		}
	}
}

func TestLabelsOfManyExpressions(t *testing.T) {
	numbers := source(20)
	seen := map[int]int{}
	for range 3000 {
		p := numbers.mostlyPublic(numbers.someProgram(12))
		e := numbers.someExpr(p, 4)
		got, want := impl.ExprLabel(p, e), exprMarks(p, e)
		if !impl.ExprValid(p, e) {
			want = marksOf(impl.MaxLabel)
		}
		if !isLabel(got) || marksOf(got) != want {
			t.Errorf("with the labels %s, the label of %s is %d, want %v", labelsText(p), impl.FormatExpr(p, e), got, want)
		}
		seen[got]++
	}
	for l := range labelTable {
		if seen[l] < 100 {
			t.Errorf("only %d expressions had the label %d", seen[l], l)
		}
	}
}

func TestLabelsOfInvalidExpressions(t *testing.T) {
	p := parsed(t, "LL/L/")
	rows := map[string]impl.Expr{
		"nothing": {}, "kind 12": {Kind: 12}, "kind -1": {Kind: -1}, "constant -1": constant(-1), "constant 256": constant(256),
		"variable -1": variable(-1), "variable 2": variable(2), "variable 12": variable(12), "array -1": read(-1, constant(0)), "array 1": read(1, constant(0)),
		"a read of a read": read(0, read(0, constant(0))), "a read of a sum": read(0, operation(impl.ExprAdd, constant(0), constant(1))),
		"a read of nothing": {Kind: impl.ExprRead}, "one operand": operation(impl.ExprSub, constant(1)),
		"a Value":                  {Kind: impl.ExprLess, Value: 1, Kids: []impl.Expr{constant(1), constant(1)}},
		"operands of a constant":   {Kind: impl.ExprConst, Kids: []impl.Expr{constant(1)}},
		"an invalid third operand": operation(impl.ExprSelect, constant(1), constant(1), variable(2)),
		"depth 6":                  chainOf(6), "17 nodes": bushOf(17), "great depth": deepExpr(1), "a circle": circularExpr(1),
	}
	for what, e := range rows {
		if got := impl.ExprLabel(p, e); got != 3 {
			t.Errorf("%s has the label %d", what, got)
		}
	}
	if impl.ExprLabel(p, chainOf(5)) != 0 || impl.ExprLabel(p, bushOf(15)) != 0 {
		t.Error("an expression as large as it may be has no label L")
	}
	for what, q := range map[string]impl.Program{
		"no variables": {}, "13 variables": {Vars: make([]int, 13)}, "3 arrays": {Vars: []int{0}, Arrays: make([]int, 3)},
		"label 4": {Vars: []int{0, 4}}, "label -1": {Vars: []int{-1}}, "label 4 of an array": {Vars: []int{0}, Arrays: []int{4}},
		"great label": {Vars: []int{0, 1 << 32}}, "very many": {Vars: make([]int, veryDeep), Arrays: make([]int, veryDeep)},
	} {
		for _, e := range []impl.Expr{constant(1), variable(0)} {
			if got := impl.ExprLabel(q, e); got != 3 {
				t.Errorf("%s: ExprLabel = %d", what, got)
			}
		}
	}
}

func TestLabelsIgnoreTheBody(t *testing.T) {
	p := impl.Program{Vars: []int{0, 1, 0, 0, 0, 0, 0, 0, 0, 0, 0, 2}, Arrays: []int{0, 2}}
	for _, body := range [][]impl.Stmt{nil, {{}}, {assign(12, constant(0))}, {deepStmt(1)}, {circularStmt(1)}} {
		p.Body = body
		if impl.ExprLabel(p, variable(1)) != 1 || impl.ExprLabel(p, variable(10)) != 0 || impl.ExprLabel(p, variable(11)) != 2 || impl.ExprLabel(p, read(0, variable(1))) != 1 || impl.ExprLabel(p, read(1, constant(0))) != 2 {
			t.Error("the label of an expression depends on the Body")
		}
	}
}

func TestResultsOfEveryKindOfStatement(t *testing.T) {
	checkResults(t, "L//", "fine", "fine")
	checkResults(t, "L//a:=1;", "fine", "fine")
	checkResults(t, "LH//b:=(a+b);", "fine", "fine")
	checkResults(t, "LH//a:=(1+b);", "assign 0", "assign 0")
	checkResults(t, "LU//a:=b;", "assign 0", "assign 0")
	checkResults(t, "UH//a:=b;", "assign 0", "assign 0")
	checkResults(t, "HU//a:=b;", "assign 0", "assign 0")
	checkResults(t, "LH/L/a:=P[1];", "fine", "fine")
	checkResults(t, "LH/H/a:=P[1];", "assign 0", "assign 0")
	checkResults(t, "LH/L/b:=P[b];", "fine", "address 0")

	checkResults(t, "LH/L/P[a]:=(a+1);", "fine", "fine")
	checkResults(t, "LH/H/P[a]:=b;", "fine", "fine")
	checkResults(t, "LH/L/P[a]:=b;", "assign 0", "assign 0")
	checkResults(t, "LH/L/P[b]:=a;", "assign 0", "assign 0")
	checkResults(t, "LU/L/P[b]:=0;", "assign 0", "assign 0")
	checkResults(t, "UH/U/P[a]:=b;", "assign 0", "assign 0")
	checkResults(t, "LH/H/P[b]:=0;", "fine", "address 0")
	checkResults(t, "LH/HL/P[a]:=Q[b];", "fine", "address 0")
	checkResults(t, "LH/HL/P[b]:=Q[b];", "fine", "address 0")
	checkResults(t, "LU/U/P[b]:=b;", "fine", "fine")

	checkResults(t, "LH//ifa{}{}", "fine", "fine")
	checkResults(t, "LU//ifb{}{}", "fine", "fine")
	checkResults(t, "LH//ifb{}{}", "fine", "branch 0")
	checkResults(t, "LH/L/if(P[b]=0){}{}", "fine", "branch 0")
	checkResults(t, "LH/H/ifP[a]{}{}", "fine", "branch 0")
	checkResults(t, "LX//if(1?2:b){}{}", "fine", "branch 0")

	checkResults(t, "LH//repeat3{}", "fine", "fine")
	checkResults(t, "LX//repeat1{repeat2{}}", "fine", "fine")

	checkResults(t, "LH//a!=a;", "fine", "fine")
	checkResults(t, "LH//a!=b;", "fine", "fine")
	checkResults(t, "XH//a!=b;", "fine", "fine")
	checkResults(t, "LU//a!=b;", "release 0", "release 0")
	checkResults(t, "LX//b!=b;", "release 0", "release 0")
	checkResults(t, "LU/U/b!=P[a];", "release 0", "release 0")
	checkResults(t, "LH/L/a!=P[b];", "fine", "address 0")
}

func TestStatementsWithTwoResults(t *testing.T) {
	checkResults(t, "LH/L/a:=P[b];", "assign 0", "assign 0")
	checkResults(t, "LH/L/P[b]:=1;", "assign 0", "assign 0")
	checkResults(t, "LX/L/a!=P[b];", "release 0", "release 0")
	checkResults(t, "LH/L/ifP[b]{}{}", "fine", "branch 0")
	checkResults(t, "LH/L/if(a+P[b]){}{}b:=P[b];", "fine", "branch 0")
	checkResults(t, "LH/L/b:=P[b];ifb{}{}", "fine", "address 0")
	checkResults(t, "LH/L/ifb{b:=P[b];}{}", "fine", "branch 0")
	checkResults(t, "LH/L/ifa{b:=P[b];}{}", "fine", "address 1")
}

func TestFirstResult(t *testing.T) {
	// CheckFlow comes first, even if an earlier statement has a result that it does not look for.
	checkResults(t, "LH//ifb{}{}a:=b;", "assign 1", "assign 1")
	checkResults(t, "LH/L/b:=P[b];ifb{a!=1;}{}", "release 2", "release 2")
	checkResults(t, "LH/H/P[b]:=0;P[0]:=b;a:=b;b:=a;a:=P[0];", "assign 2", "assign 2")
	checkResults(t, "LU//a!=b;a:=b;", "release 0", "release 0")
	checkResults(t, "LU//a:=b;a!=b;", "assign 0", "assign 0")
	checkResults(t, "LU//b:=a;b!=a;a!=b;", "release 2", "release 2")
}

func TestContexts(t *testing.T) {
	// Writes to a variable and to an array in a secret and in an untrusted context.
	checkResults(t, "LH//ifb{a:=1;}{}", "assign 1", "assign 1")
	checkResults(t, "HH//ifb{a:=1;}{}", "fine", "branch 0")
	checkResults(t, "LH/L/ifb{P[0]:=1;}{}", "assign 1", "assign 1")
	checkResults(t, "LH/H/ifb{P[0]:=1;}{}", "fine", "branch 0")
	checkResults(t, "LU//ifb{a:=1;}{}", "assign 1", "assign 1")
	checkResults(t, "UU//ifb{a:=1;}{}", "fine", "fine")
	checkResults(t, "LU/L/ifb{P[0]:=1;}{}", "assign 1", "assign 1")
	checkResults(t, "LU/U/ifb{P[0]:=1;}{}", "fine", "fine")
	checkResults(t, "UH//ifb{a:=1;}{}", "assign 1", "assign 1")
	checkResults(t, "HU//ifb{a:=1;}{}", "assign 1", "assign 1")
	checkResults(t, "LH//ifa{a:=1;}{a:=2;}", "fine", "fine")
	// The Else has the same context, and what is behind the if has not.
	checkResults(t, "LH//ifb{}{a:=1;}", "assign 1", "assign 1")
	checkResults(t, "LH//ifb{b:=1;}{b:=2;}a:=1;", "fine", "branch 0")
	checkResults(t, "LU//ifb{b:=1;}{}a!=1;", "fine", "fine")
	// The arrays and indices of a condition count too.
	checkResults(t, "LL/H/if(1+P[a]){b:=1;}{}", "assign 1", "assign 1")
	checkResults(t, "LU/L/ifP[b]{a:=1;}{}", "assign 1", "assign 1")
	checkResults(t, "LL/U/ifP[0]{}{a!=1;}", "release 1", "release 1")
}

func TestNestedContexts(t *testing.T) {
	checkResults(t, "LH//ifb{ifa{a:=1;}{}}{}", "assign 2", "assign 2")
	checkResults(t, "LH//ifa{ifb{a:=1;}{}}{}", "assign 2", "assign 2")
	checkResults(t, "LH//ifb{}{ifa{}{a:=1;}}", "assign 2", "assign 2")
	checkResults(t, "LH//ifa{ifb{b:=1;}{}a:=1;}{}", "fine", "branch 1")
	checkResults(t, "LHUX//ifb{ifc{b:=1;}{}}{}", "assign 2", "assign 2")
	checkResults(t, "LHUX//ifb{ifc{c:=1;}{}}{}", "assign 2", "assign 2")
	checkResults(t, "LHUX//ifb{ifc{d:=1;}{d:=2;}b:=2;}{}ifc{c:=1;}{}", "fine", "branch 0")
	checkResults(t, "LHUX//ifc{ifb{d:=1;}{d:=2;}b:=2;}{}", "assign 4", "assign 4")
	checkResults(t, "LH//ifb{repeat2{repeat2{a:=1;}}}{}", "assign 3", "assign 3")
	checkResults(t, "LH//repeat2{ifb{b:=1;}{}a:=1;}", "fine", "branch 1")
	checkResults(t, "LH//ifb{ifa{ifa{ifa{a:=1;}{}}{}}{}}{}", "assign 4", "assign 4")
	checkResults(t, "LH//ifa{ifa{ifa{ifb{}{a:=1;}}{}}{}}{}", "assign 4", "assign 4")
	checkResults(t, "LH//ifa{ifa{ifa{ifb{}{}a:=1;}{}}{}}{}", "fine", "branch 3")
}

func TestReleasesInContexts(t *testing.T) {
	checkResults(t, "LH//ifb{a!=1;}{}", "release 1", "release 1")
	checkResults(t, "LH//ifb{}{b!=1;}", "release 1", "release 1")
	checkResults(t, "LU//ifb{a!=1;}{}", "release 1", "release 1")
	checkResults(t, "LX//ifb{b!=1;}{}", "release 1", "release 1")
	checkResults(t, "LU//ifb{ifa{repeat1{b!=1;}}{}}{}", "release 3", "release 3")
	checkResults(t, "LH//ifa{a!=b;}{a!=1;}", "fine", "fine")
	checkResults(t, "LH//if1{repeat3{a!=b;}}{}", "fine", "fine")
	checkResults(t, "LH//repeat3{a!=b;}", "fine", "fine")
	checkResults(t, "LH/H/if0{}{b!=P[0];}ifb{}{}", "fine", "branch 2")
}

func TestSecretIndices(t *testing.T) {
	checkResults(t, "LH/HH/P[b]:=1;", "fine", "address 0")
	checkResults(t, "LH/HH/b:=Q[b];", "fine", "address 0")
	checkResults(t, "LH/HH/b:=Q[a];P[a]:=Q[a];", "fine", "fine")
	checkResults(t, "LX/XX/P[1]:=((0?1:Q[b])+1);", "fine", "address 0")
	checkResults(t, "LU/UU/P[b]:=Q[b];", "fine", "fine")
	checkResults(t, "LH/LL/b:=(P[a]+(Q[1]-(1+P[b])));", "fine", "address 0")
	checkResults(t, "LH/LL/b:=((P[b]+1)?P[a]:Q[1]);", "fine", "address 0")
	checkResults(t, "LH/HH/b:=(P[a]+(Q[1]-(b+P[3])));", "fine", "fine")
	checkResults(t, "LH/HH/repeat2{if(a<3){}{b:=P[b];}}", "fine", "address 2")
	// An index may have a value that was secret, but only its own label counts.
	checkResults(t, "LH/H/a!=b;P[a]:=b;b:=P[a];", "fine", "fine")
	// A read is not an operand of a read, so such a program is not valid.
	inner := read(0, read(1, constant(0)))
	if impl.ExprLabel(parsed(t, "L/LL/"), inner) != 3 {
		t.Error("a read within a read has a label")
	}
	checkInvalidFlow(t, "a read within a read", impl.Program{Vars: []int{0}, Arrays: []int{0, 0}, Body: []impl.Stmt{assign(0, inner)}})
	checkInvalidFlow(t, "a read as an index", impl.Program{Vars: []int{0}, Arrays: []int{0, 0}, Body: []impl.Stmt{storeTo(0, read(0, constant(1)), constant(1))}})
}

func TestNumbersOfStatements(t *testing.T) {
	checkResults(t, "LH//a:=0;a:=b;", "assign 1", "assign 1")
	checkResults(t, "LH//ifa{b:=1;a:=b;}{}", "assign 2", "assign 2")
	checkResults(t, "LH//ifa{b:=1;b:=2;}{a:=b;}", "assign 3", "assign 3")
	checkResults(t, "LH//ifa{b:=1;b:=2;}{b:=3;}a:=b;", "assign 4", "assign 4")
	checkResults(t, "LH//ifa{}{}a:=b;", "assign 1", "assign 1")
	checkResults(t, "LH//repeat3{b:=1;b:=2;}a:=b;", "assign 3", "assign 3")
	checkResults(t, "LH//repeat3{}a:=b;", "assign 1", "assign 1")
	checkResults(t, "LH//ifa{ifa{}{b:=1;}}{repeat2{b:=1;}}ifb{}{}", "fine", "branch 5")
	checkResults(t, "LU//ifa{ifa{}{b:=1;}}{repeat2{b:=1;}a!=b;}", "release 5", "release 5")
}

// atEachStatement returns copies of p in which one of the assignments, each in turn, is put in place of s, and the numbers of these.
func atEachStatement(p impl.Program, s impl.Stmt) map[int]impl.Program {
	found := map[int]impl.Program{}
	for wanted := range impl.CountStmts(p) {
		q := clonedProgram(p)
		number := 0
		var walk func(list []impl.Stmt)
		walk = func(list []impl.Stmt) {
			for i := range list {
				if number == wanted && list[i].Kind == impl.StmtAssign {
					list[i] = s
					found[wanted] = q
				}
				number++
				walk(list[i].Body)
				walk(list[i].Else)
			}
		}
		walk(q.Body)
	}
	return found
}

func TestResultOfEachStatementOfAProgram(t *testing.T) {
	p := parsed(t, "LHU/HL/a:=0;if1{a:=1;repeat2{a:=2;if2{}{a:=3;}a:=4;}a:=5;}{a:=6;if0{if1{a:=7;}{}}{a:=8;}a:=9;}a:=0;repeat3{a:=1;}if1{}{}a:=2;")
	tried := 0
	for result, s := range map[string]impl.Stmt{
		"assign": assign(0, variable(1)), "release": releaseTo(0, variable(2)),
		"branch": ifElse(variable(1), nil, nil), "address": storeTo(0, variable(1), constant(1)),
	} {
		for number, q := range atEachStatement(p, s) {
			tried++
			want := result + " " + strconv.Itoa(number)
			flow := want
			if result == "branch" || result == "address" {
				flow = "fine"
			}
			checkResults(t, impl.FormatProgram(q), flow, want)
		}
	}
	if tried != 4*13 {
		t.Errorf("%d programs were tried", tried)
	}
}

func TestResultsWithAllLabels(t *testing.T) {
	for _, text := range []string{
		"LL//a:=b;", "LL/L/P[a]:=b;", "LL/L/a:=P[b];", "LLL//ifa{b:=c;}{}", "LLL//ifa{}{b:=c;}", "LL/L/ifa{P[0]:=b;}{}", "LL//a!=b;", "LLL//ifa{b!=c;}{}",
		"LLL//ifa{ifb{c:=1;}{}}{}", "LL/LL/P[a]:=Q[b];", "LL/L/ifP[a]{b!=1;}{}", "LLL//repeat2{a:=b;}ifc{repeat1{b:=a;}}{}", "LL/L/a!=P[b];", "LLL//a:=(b?c:a);",
	} {
		for _, p := range relabelings(parsed(t, text)) {
			flow, strict := plainChecks(p)
			checkResults(t, impl.FormatProgram(p), flow, strict)
		}
	}
}

func TestResultsOfManyPrograms(t *testing.T) {
	numbers := source(21)
	seen := map[string]int{}
	for range 12000 {
		p := numbers.someProgram(6)
		way := numbers.below(3)
		if way > 0 {
			p = numbers.mostlyPublic(p)
		}
		if inferred, ok := impl.InferLabels(p); ok && way > 1 {
			p = inferred
		}
		flow, strict := plainChecks(p)
		checkResults(t, impl.FormatProgram(p), flow, strict)
		word, _, _ := strings.Cut(strict, " ")
		seen[word]++
	}
	for _, word := range []string{"fine", "assign", "release", "branch", "address"} {
		if seen[word] < 100 {
			t.Errorf("only %d programs had the result %s", seen[word], word)
		}
	}
}

// invalidPrograms returns programs that are not valid, each for another reason.
func invalidPrograms() map[string]impl.Program {
	return map[string]impl.Program{
		"nothing": {}, "no variables": {Arrays: []int{0}}, "13 variables": {Vars: make([]int, 13)}, "3 arrays": {Vars: []int{0}, Arrays: make([]int, 3)},
		"label 4": {Vars: []int{4}}, "label -1": {Vars: []int{0, -1}}, "label 4 of an array": {Vars: []int{0}, Arrays: []int{0, 4}},
		"no statement": smallest(impl.Stmt{}), "kind 6": smallest(impl.Stmt{Kind: 6}), "kind -1": smallest(impl.Stmt{Kind: -1}),
		"no variable b": smallest(assign(1, constant(0))), "no variable b to release to": smallest(releaseTo(1, constant(0))), "variable -1": smallest(assign(-1, constant(0))),
		"no array": smallest(storeTo(0, constant(0), constant(0))), "no Value": smallest(assign(0, impl.Expr{})), "no condition": smallest(ifElse(impl.Expr{}, nil, nil)),
		"a Value with no variable": smallest(assign(0, variable(1))), "a condition with no variable": smallest(ifElse(variable(12), nil, nil)), "a read of no array": smallest(releaseTo(0, read(0, constant(0)))),
		"repetition 0": smallest(repeat(0)), "repetition 4": smallest(repeat(4)), "a field too many": smallest(impl.Stmt{Kind: impl.StmtRepeat, Count: 1, Value: constant(1)}),
		"an Else too many": smallest(impl.Stmt{Kind: impl.StmtRepeat, Count: 1, Else: []impl.Stmt{repeat(1)}}), "a Body too many": smallest(impl.Stmt{Kind: impl.StmtAssign, Value: constant(1), Body: []impl.Stmt{repeat(1)}}),
		"an invalid Body": smallest(ifElse(constant(1), []impl.Stmt{{}}, nil)), "an invalid Else": smallest(ifElse(constant(1), nil, []impl.Stmt{{}})), "an invalid last statement": smallest(assign(0, constant(1)), impl.Stmt{}),
		"a release and no statement": smallest(releaseTo(0, constant(1)), impl.Stmt{}),
		"61 statements":              smallest(slices.Repeat([]impl.Stmt{repeat(1)}, 61)...), "depth 6": smallest(nestOf(6, "else")), "depth 6 of an expression": smallest(assign(0, chainOf(6))),
		"great depth": smallest(deepStmt(1)), "a circle": smallest(circularStmt(1)), "a circle in an expression": smallest(assign(0, circularExpr(1))), "a deep expression": smallest(ifElse(deepExpr(1), nil, nil)),
	}
}

func TestInvalidProgramsHaveNoFlow(t *testing.T) {
	for what, p := range invalidPrograms() {
		checkInvalidFlow(t, what, p)
	}
	for what, p := range map[string]impl.Program{"60 statements": smallest(slices.Repeat([]impl.Stmt{repeat(1)}, 60)...), "depth 5": smallest(nestOf(5, "else"))} {
		_, inferred := impl.InferLabels(p)
		_, raised := impl.RaiseLabels(p, 3)
		if resultText(impl.CheckFlow(p)) != "fine" || resultText(impl.CheckConstantTime(p)) != "fine" || !impl.ReleaseFree(p) || !inferred || !raised {
			t.Errorf("a program with %s is not accepted", what)
		}
	}
}

func TestReleaseFree(t *testing.T) {
	for text, want := range map[string]bool{
		"L//": true, "L/L/a:=1;P[0]:=a;repeat2{a:=1;}ifa{a:=1;}{a:=2;}": true, "L//a!=1;": false, "L//a:=1;a!=1;": false, "L//a!=1;a:=1;": false,
		"L//ifa{a!=1;}{}": false, "L//ifa{}{a!=1;}": false, "L//repeat1{a!=1;}": false, "L//if1{if1{if1{if1{}{a!=1;}}{}}{}}{}": false,
		"L//if1{if1{if1{if1{}{a:=1;}}{}}{}}{}": true, "X//if0{a!=a;}{}": false,
	} {
		if got := impl.ReleaseFree(parsed(t, text)); got != want {
			t.Errorf("ReleaseFree of %q = %v", text, got)
		}
	}
	numbers := source(22)
	for range 1000 {
		p := numbers.someProgram(5)
		text := impl.FormatProgram(p)
		if got := impl.ReleaseFree(p); got == strings.Contains(text, "!") {
			t.Errorf("ReleaseFree of %q = %v", text, got)
		}
		if p.Body = withoutReleases(p.Body); !impl.ReleaseFree(p) {
			t.Errorf("ReleaseFree of %q is false", impl.FormatProgram(p))
		}
	}
}

func TestInferredLabels(t *testing.T) {
	checkInferred(t, "L//", "L/")
	checkInferred(t, "LHUX/UH/", "LHUX/UH")
	checkInferred(t, "LH//a:=b;", "HH/")
	checkInferred(t, "LU//a:=b;", "UU/")
	checkInferred(t, "HU//a:=b;", "XU/")
	checkInferred(t, "HU//b:=1;a:=2;", "HU/")
	checkInferred(t, "HL//b:=b;b:=(b+1);", "HL/")
	checkInferred(t, "LHU//a:=(b?c:0);", "XHU/")
	checkInferred(t, "LH/L/P[a]:=b;", "LH/H")
	checkInferred(t, "LH/L/P[b]:=a;", "LH/H")
	checkInferred(t, "LU/LL/a:=Q[b];", "UU/LL")
	checkInferred(t, "LL/LH/a:=Q[b];", "HL/LH")
	checkInferred(t, "LLH/L/a:=b;ifc{P[0]:=a;}{b:=2;}", "HHH/H")
	checkInferred(t, "LLLLLLLLLLLH/LL/a:=l;Q[0]:=a;", "HLLLLLLLLLLH/LH")
	// An if has an effect only where something is written in it.
	checkInferred(t, "LHU//ifb{}{}", "LHU/")
	checkInferred(t, "LHU//ifb{a:=1;}{}", "HHU/")
	checkInferred(t, "LHU//ifb{}{ifc{}{a:=1;}}", "XHU/")
	checkInferred(t, "LHU//ifb{}{ifc{}{}a:=1;}", "HHU/")
	checkInferred(t, "LHU//ifb{c:=1;}{}a:=1;", "LHX/")
	checkInferred(t, "LLH/L/ifP[c]{b:=1;}{a:=1;}", "HHH/L")
	// A release writes its Target whatever the labels are.
	checkInferred(t, "LHH//a!=b;", "LHH/")
	checkInferred(t, "LHL//a!=b;c:=a;", "LHL/")
}

func TestLabelsRaisedInASecondPass(t *testing.T) {
	checkInferred(t, "LLH//a:=b;b:=c;", "HHH/")
	checkInferred(t, "LLLLLU//a:=b;b:=c;c:=d;d:=e;e:=f;", "UUUUUU/")
	checkInferred(t, "ULLLLH//b:=a;f:=e;e:=d;d:=c;c:=b;", "UUUUUX/")
	// Around a repetition, and through an array.
	checkInferred(t, "LLH//repeat2{a:=b;b:=c;}", "HHH/")
	checkInferred(t, "LLH//repeat1{a:=b;b:=c;}", "HHH/")
	checkInferred(t, "LLH//repeat2{a:=b;}repeat1{b:=c;}", "HHH/")
	checkInferred(t, "LLH/L/a:=P[0];P[1]:=c;", "HLH/H")
	checkInferred(t, "LLX/LL/a:=P[0];P[1]:=Q[2];Q[3]:=c;", "XLX/XX")
	checkInferred(t, "LLH/LL/repeat3{P[b]:=Q[a];a:=P[0];b:=c;}", "HHH/HL")
	// A label of a condition that is raised later raises the context.
	checkInferred(t, "LLH//ifb{a:=1;}{}b:=c;", "HHH/")
	checkInferred(t, "LLU/L/ifP[0]{a:=1;}{ifa{b:=2;}{}}P[0]:=c;", "UUU/U")
	checkInferred(t, "LLLU//ifa{repeat2{ifb{c:=1;}{}}}{}b:=d;", "LUUU/")
	// A label that is raised by one mark and, later, by the other.
	checkInferred(t, "LLHU//a:=b;b:=c;b:=d;", "XXHU/")
	checkInferred(t, "LLLHU//a:=b;b:=d;b:=c;c:=e;", "XXUHU/")
	// Around a circle.
	checkInferred(t, "LLLH//a:=b;b:=c;c:=a;", "LLLH/")
	checkInferred(t, "LLHU//a:=b;b:=a;a:=c;b:=d;", "XXHU/")
}

func TestReleasesWithInferredLabels(t *testing.T) {
	checkNotInferred(t, "LU//a!=b;")
	checkNotInferred(t, "LLU//a!=b;b:=c;")
	checkNotInferred(t, "LLU/L/a!=P[0];P[b]:=1;b:=c;")
	checkNotInferred(t, "LLH//ifb{a!=1;}{}b:=c;")
	checkNotInferred(t, "LLU//ifb{ifa{}{repeat2{a!=1;}}}{}b:=c;")
	checkNotInferred(t, "LH//ifb{a!=1;}{}")
	checkNotInferred(t, "LH//ifb{a:=1;}{}ifa{a!=1;}{}")
	checkInferred(t, "LLH//a!=b;b:=c;", "LHH/")
	checkInferred(t, "LLHU//a!=b;b:=c;a:=d;", "UHHU/")
	checkInferred(t, "LLH//ifa{a!=b;}{}b:=c;", "LHH/")
}

// places lists the labels of variables and arrays.
func places(p impl.Program) []int { return slices.Concat(p.Vars, p.Arrays) }

// notAbove reports whether each label of a may flow to the one of b at its place.
func notAbove(a []int, b []int) bool {
	for i := range a {
		if !marksOf(a[i]).mayFlowTo(b[i]) {
			return false
		}
	}
	return true
}

// hasResult reports whether a statement of p has a result.
func hasResult(p impl.Program, result int) bool {
	return slices.ContainsFunc(plainResults(p, p.Body, dataMarks{}), func(has []int) bool { return slices.Contains(has, result) })
}

// checkSmallest checks InferLabels for every choice of the declared labels, by comparing its labels with every choice of labels.
func checkSmallest(t *testing.T, p impl.Program) {
	t.Helper()
	all := relabelings(p)
	var fine []impl.Program
	for _, q := range all {
		if !hasResult(q, impl.FlowAssign) {
			fine = append(fine, q)
		}
	}
	for _, declared := range all {
		got, ok := impl.InferLabels(declared)
		above := slices.DeleteFunc(slices.Clone(fine), func(q impl.Program) bool { return !notAbove(places(declared), places(q)) })
		smallest := slices.IndexFunc(above, func(q impl.Program) bool {
			return !slices.ContainsFunc(above, func(other impl.Program) bool { return !notAbove(places(q), places(other)) })
		})
		if smallest < 0 {
			t.Fatalf("%q has no smallest labels", impl.FormatProgram(declared))
		}
		want, wanted := above[smallest], true
		if hasResult(want, impl.FlowRelease) {
			want, wanted = impl.Program{}, false
		}
		if ok != wanted || !equalPrograms(got, want) {
			t.Errorf("InferLabels of %q = %s, %v, want %s", impl.FormatProgram(declared), labelsText(got), ok, labelsText(want))
		}
	}
}

func TestInferredLabelsAreTheSmallest(t *testing.T) {
	for _, text := range []string{
		"L//", "LLL//a:=b;b:=c;", "LLL//repeat2{a:=b;b:=c;}", "LLL/L/a:=P[b];P[0]:=c;", "LL/L/P[a]:=b;", "LL/LL/P[a]:=Q[b];Q[0]:=a;",
		"LLL//ifa{b:=1;}{c:=2;}", "LLL//ifa{ifb{c:=1;}{}}{b:=c;}", "LLL//a!=b;b:=c;", "LLL//ifa{b!=c;}{}a:=b;", "LL/L/ifP[a]{b:=1;}{}P[0]:=b;",
		"LLLL//a:=b;b:=c;c:=d;", "LLLL//ifa{repeat3{b:=c;}}{}a:=(c?d:d);", "LLLL//a:=b;b:=a;c:=a;b:=d;", "LLL/L/repeat2{P[a]:=b;a:=P[0];c!=a;}",
	} {
		checkSmallest(t, parsed(t, text))
	}
	numbers := source(23)
	for range 250 {
		checkSmallest(t, numbers.someProgram(2))
	}
}

func TestRaisedLabels(t *testing.T) {
	const body = "/a:=P[c];ifb{repeat2{Q[3]:=(b?a:c);}}{d!=1;}"
	p := parsed(t, "LHUX/LU"+body)
	for l, want := range []string{"LHUX/LU", "HHXX/HX", "UXUX/UU", "XXXX/XX"} {
		got, ok := impl.RaiseLabels(p, l)
		if !ok || impl.FormatProgram(got) != want+body || !equalPrograms(got, parsed(t, want+body)) {
			t.Errorf("RaiseLabels with %d = %q, %v", l, impl.FormatProgram(got), ok)
		}
	}
	for _, l := range notLabels {
		if got, ok := impl.RaiseLabels(p, l); ok || !isZeroProgram(got) {
			t.Errorf("RaiseLabels with %d = %v, %v", l, got, ok)
		}
	}
}

func TestRaisedLabelsOfEveryLabel(t *testing.T) {
	for _, p := range relabelings(parsed(t, "LL/LL/")) {
		for l := range labelTable {
			got, ok := impl.RaiseLabels(p, l)
			if !ok || len(got.Vars) != 2 || len(got.Arrays) != 2 || len(got.Body) != 0 {
				t.Fatalf("RaiseLabels of %s with %d = %v, %v", labelsText(p), l, got, ok)
			}
			for i, before := range places(p) {
				if marksOf(places(got)[i]) != marksOf(before).and(marksOf(l)) {
					t.Errorf("RaiseLabels of %s with %d = %s", labelsText(p), l, labelsText(got))
				}
			}
		}
	}
}

// changedAt returns m with other values at the places whose labels are changed.
func (s *source) changedAt(p impl.Program, m impl.Memory, changed func(l int) bool) impl.Memory {
	m = clonedMemory(m)
	other := s.someMemory(p)
	for v, l := range p.Vars {
		if changed(l) {
			m.Vals[v] = other.Vals[v]
		}
	}
	for a, l := range p.Arrays {
		if changed(l) {
			m.Arrays[a] = other.Arrays[a]
		}
	}
	return m
}

func isSecret(l int) bool { return labelTable[l].secret }

func isUntrusted(l int) bool { return !labelTable[l].trusted }

// kept writes the values of a memory at the places whose labels are not changed.
func kept(p impl.Program, m impl.Memory, changed func(l int) bool) string {
	var list []int
	for v, l := range p.Vars {
		if !changed(l) {
			list = append(list, m.Vals[v])
		}
	}
	for a, l := range p.Arrays {
		if !changed(l) {
			list = append(list, m.Arrays[a]...)
		}
	}
	return numbersText(list)
}

// checkIndependent checks promise 4 for two memories that differ at the places whose labels are changed.
func checkIndependent(t *testing.T, p impl.Program, m impl.Memory, n impl.Memory, changed func(l int) bool) {
	t.Helper()
	one, _, okOne := impl.RunProgram(p, m)
	other, _, okOther := impl.RunProgram(p, n)
	if !okOne || !okOther || kept(p, one, changed) != kept(p, other, changed) {
		t.Errorf("%q makes %s of %s, and %s of %s", impl.FormatProgram(p), memoryText(one), memoryText(m), memoryText(other), memoryText(n))
	}
}

// checkSecretTrace checks that the traces of two memories that differ in secrets are equal.
func checkSecretTrace(t *testing.T, p impl.Program, m impl.Memory, n impl.Memory) {
	t.Helper()
	_, one, _ := impl.RunProgram(p, m)
	_, other, _ := impl.RunProgram(p, n)
	if plainTrace(one) != plainTrace(other) {
		t.Errorf("%q has the trace %s with %s, and %s with %s", impl.FormatProgram(p), impl.FormatTrace(one), memoryText(m), impl.FormatTrace(other), memoryText(n))
	}
}

func TestResultsDoNotDependOnWhatTheyMayNot(t *testing.T) {
	numbers := source(24)
	fine, strict, untrusted := 0, 0, 0
	for range 6000 {
		p := numbers.mostlyPublic(numbers.someProgram(5))
		p.Body = withoutReleases(p.Body)
		if numbers.below(4) > 0 {
			p, _ = impl.InferLabels(p)
		}
		if code, _ := impl.CheckFlow(p); code != impl.FlowFine || !impl.ReleaseFree(p) {
			continue
		}
		code, _ := impl.CheckConstantTime(p)
		for range 4 {
			m := numbers.someMemory(p)
			if n := numbers.changedAt(p, m, isSecret); !reflect.DeepEqual(m, n) {
				fine++
				checkIndependent(t, p, m, n, isSecret)
				if code == impl.FlowFine {
					strict++
					checkSecretTrace(t, p, m, n)
				}
			}
			if n := numbers.changedAt(p, m, isUntrusted); !reflect.DeepEqual(m, n) {
				untrusted++
				checkIndependent(t, p, m, n, isUntrusted)
			}
		}
	}
	if fine < 5000 || strict < 1000 || untrusted < 5000 {
		t.Errorf("only %d, %d and %d pairs of memories were tried", fine, strict, untrusted)
	}
}

// pairs returns the pairs of memories of p, with small values, that differ only at the places whose labels are changed.
func pairs(p impl.Program, changed func(l int) bool) [][2]impl.Memory {
	var list [][2]impl.Memory
	groups := map[string]impl.Memory{}
	var fill func(m impl.Memory, at int)
	fill = func(m impl.Memory, at int) {
		if at == len(p.Vars)+len(p.Arrays) {
			m = clonedMemory(m)
			public := kept(p, m, changed)
			if first, ok := groups[public]; ok {
				list = append(list, [2]impl.Memory{first, m})
			} else {
				groups[public] = m
			}
			return
		}
		for value := range 3 {
			if at < len(p.Vars) {
				m.Vals[at] = value
			} else {
				m.Arrays[at-len(p.Vars)] = []int{value, 0, 2 - value, 1}
			}
			fill(m, at+1)
		}
	}
	fill(impl.Memory{Vals: make([]int, len(p.Vars)), Arrays: make([][]int, len(p.Arrays))}, 0)
	return list
}

func TestSmallProgramsWithAllLabelsDoNotLeak(t *testing.T) {
	for _, text := range []string{
		"LL//a:=b;", "LL/L/P[a]:=b;", "LL/L/a:=P[b];", "LLL//ifa{b:=c;}{}", "LLL//ifa{}{b:=c;}", "LL/L/ifa{P[0]:=b;}{}", "LL/L/ifa{P[b]:=1;}{P[0]:=2;}",
		"LLL//ifa{ifb{c:=1;}{}}{}", "LLL//repeat2{a:=b;b:=c;}", "LLL//a:=(b?c:a);", "LL/L/ifP[a]{b:=1;}{b:=2;}", "LLL//a:=b;ifa{c:=1;}{}", "LL/L/ifa{b:=P[b];}{}",
	} {
		for _, p := range relabelings(parsed(t, text)) {
			if code, _ := impl.CheckFlow(p); code != impl.FlowFine {
				continue
			}
			code, _ := impl.CheckConstantTime(p)
			for _, pair := range pairs(p, isSecret) {
				checkIndependent(t, p, pair[0], pair[1], isSecret)
				if code == impl.FlowFine {
					checkSecretTrace(t, p, pair[0], pair[1])
				}
			}
			for _, pair := range pairs(p, isUntrusted) {
				checkIndependent(t, p, pair[0], pair[1], isUntrusted)
			}
		}
	}
}

const flowText = "LHUX/HU/b:=(P[b]+1);if(b-2){repeat2{Q[3]:=(b?a:c);}}{d:=P[c];}c:=(d<255);P[a]:=((b&7)^P[0]);"

func TestFlowKeepsArguments(t *testing.T) {
	p := parsed(t, flowText)
	p.Vars, p.Arrays, p.Body = slices.Grow(p.Vars, 3), slices.Grow(p.Arrays, 3), slices.Grow(p.Body, 3)
	p.Body[0].Body, p.Body[0].Value.Kids[0].Kids[0].Kids = make([]impl.Stmt, 0, 2), make([]impl.Expr, 0, 2)
	fillSpareProgram(p)
	before := clonedProgram(p)
	e := p.Body[1].Body[0].Body[0].Value
	impl.ExprLabel(p, e)
	impl.CheckFlow(p)
	impl.CheckConstantTime(p)
	impl.ReleaseFree(p)
	impl.InferLabels(p)
	impl.RaiseLabels(p, 3)
	if !reflect.DeepEqual(p, before) {
		t.Errorf("a function changed its argument: %s", impl.FormatProgram(p))
	}
	if p.Vars[:5][4] != 77 || p.Arrays[:3][2] != 77 || p.Body[:5][4].Count != 77 || p.Body[0].Body[:2][1].Count != 77 || p.Body[0].Value.Kids[0].Kids[0].Kids[:1][0].Value != 77 {
		t.Error("a function changed what is beyond its argument")
	}
}

func TestFlowResultsShareNoMemory(t *testing.T) {
	makers := map[string]func(p impl.Program) (impl.Program, bool){
		"InferLabels":        impl.InferLabels,
		"RaiseLabels with 0": func(p impl.Program) (impl.Program, bool) { return impl.RaiseLabels(p, 0) },
		"RaiseLabels with 3": func(p impl.Program) (impl.Program, bool) { return impl.RaiseLabels(p, 3) },
	}
	for what, maker := range makers {
		p := parsed(t, flowText)
		p.Vars, p.Arrays, p.Body = slices.Grow(p.Vars, 3), slices.Grow(p.Arrays, 3), slices.Grow(p.Body, 3)
		p.Body[0].Body, p.Body[3].Index.Kids = make([]impl.Stmt, 0, 2), make([]impl.Expr, 0, 2)
		fillSpareProgram(p)
		before := clonedProgram(p)
		first, ok := maker(p)
		second, okSecond := maker(p)
		text := impl.FormatProgram(second)
		if fillSpareProgram(first); !ok || !okSecond || impl.FormatProgram(first) != text {
			t.Errorf("parts of a result of %s share memory", what)
		}
		overwriteProgram(first)
		if impl.FormatProgram(second) != text || !reflect.DeepEqual(p, before) || p.Vars[:5][4] != 77 || p.Body[:5][4].Count != 77 || p.Body[0].Body[:1][0].Count != 77 || p.Body[3].Index.Kids[:1][0].Kind != impl.ExprConst {
			t.Errorf("a result of %s shares memory with another result or with an argument", what)
		}
		overwriteProgram(p)
		if third, _ := maker(before); impl.FormatProgram(second) != text || impl.FormatProgram(third) != text {
			t.Errorf("a result of %s shares memory with an argument, or %s keeps state", what, what)
		}
	}
}

func TestFlowResultsOfOneSlice(t *testing.T) {
	labels := []int{0, 1, 2, 3}
	kids := []impl.Expr{variable(1), variable(1)}
	sum := operation(impl.ExprAdd, kids...)
	body := []impl.Stmt{assign(1, sum)}
	p := impl.Program{Vars: labels[:2], Arrays: labels[:2], Body: []impl.Stmt{ifElse(constant(1), body, body), assign(1, sum), storeTo(1, variable(1), sum)}}
	for what, maker := range map[string]func() (impl.Program, bool){
		"InferLabels": func() (impl.Program, bool) { return impl.InferLabels(p) },
		"RaiseLabels": func() (impl.Program, bool) { return impl.RaiseLabels(p, 0) },
	} {
		got, ok := maker()
		got.Vars[0], got.Body[0].Body[0].Target, got.Body[1].Value.Kids[0].Value = 2, 0, 0
		got.Body[0].Else[0].Value.Kids[1] = constant(9)
		if text := impl.FormatProgram(got); !ok || text != "UH/LH/if1{a:=(b+b);}{b:=(b+9);}b:=(a+b);Q[b]:=(b+b);" {
			t.Errorf("parts of a result of %s share memory: %s", what, text)
		}
	}
	if impl.FormatProgram(p) != "LH/LH/if1{b:=(b+b);}{b:=(b+b);}b:=(b+b);Q[b]:=(b+b);" {
		t.Error("an argument was changed")
	}
}

func TestChecksAtTheSameTime(t *testing.T) {
	p := parsed(t, flowText)
	q, _ := impl.InferLabels(p)
	want, flow, strict := impl.FormatProgram(q), resultText(impl.CheckFlow(q)), resultText(impl.CheckConstantTime(q))
	var group sync.WaitGroup
	for range 8 {
		group.Go(func() {
			for range 100 {
				got, ok := impl.InferLabels(p)
				if !ok || impl.FormatProgram(got) != want || resultText(impl.CheckFlow(got)) != flow || resultText(impl.CheckConstantTime(got)) != strict {
					t.Errorf("InferLabels = %s, %v", impl.FormatProgram(got), ok)
				}
			}
		})
	}
	group.Wait()
}
