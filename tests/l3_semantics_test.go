package tests

import (
	"math"
	"reflect"
	"runtime"
	"slices"
	"strconv"
	"strings"
	"sync"
	"testing"
	"time"

	"loop.example/constanttime/impl"
)

// numbersIn returns the numbers of a text that are separated by spaces.
func numbersIn(text string) []int {
	var list []int
	for word := range strings.FieldsSeq(text) {
		n, err := strconv.Atoi(word)
		if err != nil {
			panic(err)
		}
		list = append(list, n)
	}
	return list
}

// memoryIn returns the memory with that text: the values and, each behind a slash, the elements of every array.
func memoryIn(text string) impl.Memory {
	parts := strings.Split(text, "/")
	m := impl.Memory{Vals: numbersIn(parts[0])}
	for _, part := range parts[1:] {
		m.Arrays = append(m.Arrays, numbersIn(part))
	}
	return m
}

// memoryText is the opposite of memoryIn.
func memoryText(m impl.Memory) string {
	parts := []string{numbersText(m.Vals)}
	for _, elements := range m.Arrays {
		parts = append(parts, numbersText(elements))
	}
	return strings.Join(parts, "/")
}

func numbersText(list []int) string {
	var words []string
	for _, n := range list {
		words = append(words, strconv.Itoa(n))
	}
	return strings.Join(words, " ")
}

// plainTrace writes any events, so that traces can be compared without the functions that are tested.
func plainTrace(list []impl.Event) string {
	var words []string
	for _, event := range list {
		words = append(words, strconv.Itoa(event.Kind)+":"+strconv.Itoa(event.Value))
	}
	return strings.Join(words, " ")
}

func isZeroMemory(m impl.Memory) bool { return len(m.Vals) == 0 && len(m.Arrays) == 0 }

func clonedMemory(m impl.Memory) impl.Memory {
	m.Vals, m.Arrays = slices.Clone(m.Vals), slices.Clone(m.Arrays)
	for a := range m.Arrays {
		m.Arrays[a] = slices.Clone(m.Arrays[a])
	}
	return m
}

// checkValue checks the value and the events of an expression.
func checkValue(t *testing.T, p impl.Program, m impl.Memory, e impl.Expr, want int, trace string) {
	t.Helper()
	got, events, ok := impl.EvalExpr(p, m, e)
	if !ok || got != want || impl.FormatTrace(events) != trace {
		t.Errorf("EvalExpr of %s in %s = %d, %q, %v, want %d, %q", impl.FormatExpr(p, e), memoryText(m), got, impl.FormatTrace(events), ok, want, trace)
	}
}

// checkRun checks what a program does, from the texts of everything.
func checkRun(t *testing.T, text string, before string, after string, trace string) {
	t.Helper()
	m, events, ok := impl.RunProgram(parsed(t, text), memoryIn(before))
	if !ok || memoryText(m) != after || impl.FormatTrace(events) != trace {
		t.Errorf("%s on %s = %s, %q, %v, want %s, %q", text, before, memoryText(m), impl.FormatTrace(events), ok, after, trace)
	}
}

// checkInvalidMemory checks the results of all functions that take a memory, for one that is not a memory of p.
func checkInvalidMemory(t *testing.T, what string, p impl.Program, m impl.Memory) {
	t.Helper()
	if impl.MemoryValid(p, m) {
		t.Errorf("%s: MemoryValid is true", what)
	}
	for _, e := range []impl.Expr{constant(1), variable(0), {}} {
		if n, events, ok := impl.EvalExpr(p, m, e); n != 0 || len(events) != 0 || ok {
			t.Errorf("%s: EvalExpr = %d, %v, %v", what, n, events, ok)
		}
	}
	if out, events, ok := impl.RunProgram(p, m); !isZeroMemory(out) || len(events) != 0 || ok {
		t.Errorf("%s: RunProgram = %v, %v, %v", what, out, events, ok)
	}
	if part, ok := impl.PublicPart(p, m); !isZeroMemory(part) || ok {
		t.Errorf("%s: PublicPart = %v, %v", what, part, ok)
	}
	if part, ok := impl.TrustedPart(p, m); !isZeroMemory(part) || ok {
		t.Errorf("%s: TrustedPart = %v, %v", what, part, ok)
	}
}

// checkValidMemory checks that m is accepted as a memory of p by all functions that take one.
func checkValidMemory(t *testing.T, p impl.Program, m impl.Memory) {
	t.Helper()
	_, _, evaluated := impl.EvalExpr(p, m, variable(0))
	_, _, run := impl.RunProgram(p, m)
	_, public := impl.PublicPart(p, m)
	_, trusted := impl.TrustedPart(p, m)
	if !impl.MemoryValid(p, m) || !evaluated || !run || !public || !trusted {
		t.Errorf("%s is not accepted as a memory of %q: %v %v %v %v", memoryText(m), impl.FormatProgram(p), evaluated, run, public, trusted)
	}
}

// plainOperation is the definition of the operations with two operands, by bytes.
func plainOperation(kind int, a byte, b byte) byte {
	switch {
	case kind == impl.ExprAdd:
		return a + b
	case kind == impl.ExprSub:
		return a - b
	case kind == impl.ExprMul:
		return a * b
	case kind == impl.ExprAnd:
		return a & b
	case kind == impl.ExprXor:
		return a ^ b
	case kind == impl.ExprEqual && a == b, kind == impl.ExprLess && a < b:
		return 1
	}
	return 0
}

// plainValue returns the value and the events of a valid expression.
func plainValue(m impl.Memory, e impl.Expr) (byte, []impl.Event) {
	var of []byte
	var events []impl.Event
	for _, kid := range e.Kids {
		value, more := plainValue(m, kid)
		of, events = append(of, value), append(events, more...)
	}
	switch e.Kind {
	case impl.ExprConst:
		return byte(e.Value), events
	case impl.ExprVar:
		return byte(m.Vals[e.Value]), events
	case impl.ExprRead:
		at := int(of[0] & 3)
		return byte(m.Arrays[e.Value][at]), append(events, impl.Event{Kind: 2, Value: 4*e.Value + at})
	case impl.ExprSelect:
		if of[0] == 0 {
			return of[2], events
		}
		return of[1], events
	}
	return plainOperation(e.Kind, of[0], of[1]), events
}

// plainRun executes valid statements in m itself.
func plainRun(m impl.Memory, list []impl.Stmt) []impl.Event {
	var events []impl.Event
	for _, s := range list {
		if s.Kind == impl.StmtRepeat {
			for range s.Count {
				events = append(events, plainRun(m, s.Body)...)
			}
			continue
		}
		value, more := plainValue(m, s.Value)
		events = append(events, more...)
		switch s.Kind {
		case impl.StmtStore:
			index, _ := plainValue(m, s.Index)
			m.Arrays[s.Target][index%4] = int(value)
			events = append(events, impl.Event{Kind: 3, Value: 4*s.Target + int(index%4)})
		case impl.StmtIf:
			way, next := 0, s.Else
			if value > 0 {
				way, next = 1, s.Body
			}
			events = append(events, impl.Event{Kind: 1, Value: way})
			events = append(events, plainRun(m, next)...)
		case impl.StmtRelease:
			events = append(events, impl.Event{Kind: 4, Value: int(value)})
			fallthrough
		default:
			m.Vals[s.Target] = int(value)
		}
	}
	return events
}

// someMemory returns a memory of p. Small values are frequent, so that comparisons and conditions go both ways.
func (s *source) someMemory(p impl.Program) impl.Memory {
	values := func(count int) []int {
		list := make([]int, count)
		for i := range list {
			list[i] = s.below([]int{2, 6, 256}[s.below(3)])
		}
		return list
	}
	m := impl.Memory{Vals: values(len(p.Vars))}
	for range p.Arrays {
		m.Arrays = append(m.Arrays, values(4))
	}
	return m
}

func TestKindsOfEvents(t *testing.T) {
	kinds := []int{impl.EventBranch, impl.EventRead, impl.EventWrite, impl.EventRelease}
	if !slices.Equal(kinds, []int{1, 2, 3, 4}) {
		t.Errorf("the kinds of events are %v", kinds)
	}
}

func TestValuesOfExpressions(t *testing.T) {
	rows := []struct {
		text  string
		want  int
		trace string
	}{
		{"0", 0, ""}, {"1", 1, ""}, {"255", 255, ""},
		{"a", 5, ""}, {"b", 200, ""}, {"c", 0, ""}, {"d", 255, ""},
		{"P[0]", 10, "r0"}, {"P[3]", 40, "r3"}, {"Q[0]", 1, "r4"}, {"Q[1]", 0, "r5"}, {"Q[3]", 128, "r7"},
		{"P[4]", 10, "r0"}, {"P[5]", 20, "r1"}, {"P[254]", 30, "r2"}, {"P[255]", 40, "r3"}, {"Q[6]", 255, "r6"}, {"Q[255]", 128, "r7"},
		{"P[a]", 20, "r1"}, {"P[b]", 10, "r0"}, {"P[c]", 10, "r0"}, {"Q[d]", 128, "r7"}, {"Q[a]", 0, "r5"},
		{"(a+b)", 205, ""}, {"(b+b)", 144, ""}, {"(d+1)", 0, ""}, {"(255+255)", 254, ""}, {"(a+c)", 5, ""},
		{"(b-a)", 195, ""}, {"(a-a)", 0, ""}, {"(d-0)", 255, ""},
		{"(a-b)", 61, ""}, {"(c-1)", 255, ""}, {"(0-255)", 1, ""}, {"(0-128)", 128, ""}, {"((0-1)-1)", 254, ""}, {"((0-255)-255)", 2, ""},
		{"(a*a)", 25, ""}, {"(b*b)", 64, ""}, {"(255*255)", 1, ""}, {"(16*16)", 0, ""}, {"(a*c)", 0, ""}, {"((0-2)*3)", 250, ""},
		{"(12&10)", 8, ""}, {"(d&a)", 5, ""}, {"(b&c)", 0, ""}, {"((0-1)&170)", 170, ""},
		{"(12^10)", 6, ""}, {"(b^d)", 55, ""}, {"(a^a)", 0, ""}, {"((0-1)^1)", 254, ""},
		{"(a=5)", 1, ""}, {"(a=b)", 0, ""}, {"(c=0)", 1, ""}, {"((0-1)=d)", 1, ""}, {"((200+56)=c)", 1, ""},
		{"(a<b)", 1, ""}, {"(b<a)", 0, ""}, {"(a<a)", 0, ""}, {"(0<255)", 1, ""}, {"(255<0)", 0, ""}, {"((0-1)<1)", 0, ""}, {"(1<(0-1))", 1, ""}, {"((255+1)<1)", 1, ""},
		{"(a?b:c)", 200, ""}, {"(c?b:a)", 5, ""}, {"(1?2:3)", 2, ""}, {"(2?2:3)", 2, ""}, {"(255?2:3)", 2, ""}, {"(128?2:3)", 2, ""}, {"(0?2:3)", 3, ""}, {"((255+1)?2:3)", 3, ""},
	}
	declared := "LHUX/HU/"
	m := memoryIn("5 200 0 255/10 20 30 40/1 0 255 128")
	for _, row := range rows {
		text := declared + "a:=" + row.text + ";"
		p := parsed(t, text)
		checkValue(t, p, m, p.Body[0].Value, row.want, row.trace)
		checkRun(t, text, memoryText(m), strconv.Itoa(row.want)+" 200 0 255/10 20 30 40/1 0 255 128", row.trace)
	}
}

func TestOperationsOnManyValues(t *testing.T) {
	p := parsed(t, "LHU//")
	edges := []int{0, 1, 2, 3, 4, 5, 7, 8, 15, 16, 17, 63, 64, 85, 100, 127, 128, 129, 170, 200, 251, 253, 254, 255}
	for kind := impl.ExprAdd; kind <= impl.ExprLess; kind++ {
		for _, a := range edges {
			for _, b := range edges {
				m := impl.Memory{Vals: []int{a, b, 0}}
				want := int(plainOperation(kind, byte(a), byte(b)))
				checkValue(t, p, m, operation(kind, variable(0), variable(1)), want, "")
				checkValue(t, p, m, operation(kind, constant(a), constant(b)), want, "")
			}
		}
	}
	for a := range 256 {
		for b := range 256 {
			m := impl.Memory{Vals: []int{a, b, 0}}
			checkValue(t, p, m, operation(impl.ExprSub, variable(0), variable(1)), (a-b+256)%256, "")
		}
		want := 7
		if a == 0 {
			want = 9
		}
		checkValue(t, p, impl.Memory{Vals: []int{a, 7, 9}}, operation(impl.ExprSelect, variable(0), variable(1), variable(2)), want, "")
	}
}

func TestIndexNotBelowTheSize(t *testing.T) {
	for index := range 256 {
		i := index % 4
		n := strconv.Itoa(index)
		before := n + " 0/10 11 12 13/20 21 22 23"
		for _, at := range []string{"a", n} {
			checkRun(t, "LL/LL/b:=P["+at+"];", before, n+" "+strconv.Itoa(10+i)+"/10 11 12 13/20 21 22 23", "r"+strconv.Itoa(i))
			checkRun(t, "LL/LL/b:=Q["+at+"];", before, n+" "+strconv.Itoa(20+i)+"/10 11 12 13/20 21 22 23", "r"+strconv.Itoa(4+i))
			elements := []int{10, 11, 12, 13}
			elements[i] = 99
			checkRun(t, "LL/LL/P["+at+"]:=99;", before, n+" 0/"+numbersText(elements)+"/20 21 22 23", "w"+strconv.Itoa(i))
			elements = []int{20, 21, 22, 23}
			elements[i] = 99
			checkRun(t, "LL/LL/Q["+at+"]:=99;", before, n+" 0/10 11 12 13/"+numbersText(elements), "w"+strconv.Itoa(4+i))
		}
	}
}

func TestOrderOfReads(t *testing.T) {
	rows := []struct {
		text  string
		want  int
		trace string
	}{
		{"(a?P[1]:Q[2])", 20, "r1 r6"}, {"(c?P[1]:Q[2])", 255, "r1 r6"},
		{"(a?Q[2]:P[1])", 255, "r6 r1"}, {"(c?Q[2]:P[1])", 20, "r6 r1"},
		{"(P[0]?P[1]:Q[2])", 20, "r0 r1 r6"}, {"(Q[1]?Q[2]:P[0])", 10, "r5 r6 r0"}, {"(Q[2]?Q[2]:Q[2])", 255, "r6 r6 r6"},
		{"(P[a]?1:2)", 1, "r1"}, {"(Q[a]?P[d]:2)", 2, "r5 r3"}, {"(1?2:P[d])", 2, "r3"}, {"(0?2:P[d])", 40, "r3"},
		{"(P[3]-P[2])", 10, "r3 r2"}, {"(P[2]-P[3])", 246, "r2 r3"}, {"(Q[0]<P[0])", 1, "r4 r0"}, {"(P[0]<Q[0])", 0, "r0 r4"},
		{"(c*P[3])", 0, "r3"}, {"(c&P[3])", 0, "r3"}, {"(P[3]=P[3])", 1, "r3 r3"},
		{"((P[3]+Q[0])*(P[1]-P[2]))", 102, "r3 r4 r1 r2"},
		{"(P[a]+(P[a]+P[b]))", 50, "r1 r1 r0"}, {"((P[a]+P[a])+P[b])", 50, "r1 r1 r0"},
		{"(Q[d]<(P[0]?Q[1]:(Q[2]^Q[3])))", 0, "r7 r0 r5 r6 r7"},
		{"((Q[0]?P[0]:P[1])?P[2]:(Q[1]?1:2))", 30, "r4 r0 r1 r2 r5"}, {"((Q[1]?P[0]:Q[1])?P[2]:(Q[0]?1:2))", 1, "r5 r0 r5 r2 r4"},
		{"((1<P[0])+((2<P[1])+(4=P[3])))", 2, "r0 r1 r3"},
	}
	m := memoryIn("5 200 0 255/10 20 30 40/1 0 255 128")
	for _, row := range rows {
		p := parsed(t, "LHUX/HU/a:="+row.text+";")
		checkValue(t, p, m, p.Body[0].Value, row.want, row.trace)
		checkRun(t, "LHUX/HU/c!="+row.text+";", memoryText(m), "5 200 "+strconv.Itoa(row.want)+" 255/10 20 30 40/1 0 255 128", row.trace+" o"+strconv.Itoa(row.want))
		checkRun(t, "LHUX/HU/P[1]:="+row.text+";", memoryText(m), "5 200 0 255/10 "+strconv.Itoa(row.want)+" 30 40/1 0 255 128", row.trace+" w1")
		way := strconv.Itoa(min(row.want, 1))
		checkRun(t, "LHUX/HU/if"+row.text+"{}{}", memoryText(m), memoryText(m), row.trace+" b"+way)
	}
}

func TestRunsOfStatements(t *testing.T) {
	rows := []struct{ text, before, after, trace string }{
		{"LH/L/P[a]:=b;if(a<3){a:=P[0];}{}", "5 9/0 0 0 0", "5 9/0 9 0 0", "w1 b0"},
		{"LH/L/P[a]:=b;if(a<3){a:=P[0];}{}", "2 9/7 0 0 0", "7 9/7 0 9 0", "w2 b1 r0"},
		// Assignments.
		{"LL//a:=b;", "1 2", "2 2", ""},
		{"LL//a:=b;b:=a;", "1 2", "2 2", ""},
		{"LLL//c:=a;a:=b;b:=c;", "1 2 0", "2 1 1", ""},
		{"L//a:=(a-1);", "0", "255", ""},
		{"L//a:=(a-1);a:=(a<1);", "0", "0", ""},
		{"LX/UL/b:=P[a];", "255 0/1 2 3 4/5 6 7 8", "255 4/1 2 3 4/5 6 7 8", "r3"},
		// Stores.
		{"LX/UL/Q[a]:=b;", "6 9/1 2 3 4/5 6 7 8", "6 9/1 2 3 4/5 6 9 8", "w6"},
		{"LX/UL/P[1]:=(P[1]+Q[a]);", "6 9/1 2 3 4/5 6 7 8", "6 9/1 9 3 4/5 6 7 8", "r1 r6 w1"},
		{"LX/UL/P[a]:=P[a];P[a]:=(P[a]-4);", "6 9/1 2 3 4/5 6 7 8", "6 9/1 2 255 4/5 6 7 8", "r2 w2 r2 w2"},
		{"L/L/a:=3;P[a]:=a;a:=P[a];", "0/9 9 9 9", "3/9 9 9 3", "w3 r3"},
		{"L/L/P[0]:=P[1];P[1]:=P[0];", "0/1 2 3 4", "0/2 2 3 4", "r1 w0 r0 w1"},
		// Releases.
		{"LH//a!=b;", "1 2", "2 2", "o2"},
		{"LH//a!=(a-b);", "1 2", "255 2", "o255"},
		{"LH/HL/b!=(Q[a]?P[1]:P[2]);", "3 4/10 11 12 13/0 0 0 7", "3 11/10 11 12 13/0 0 0 7", "r7 r1 r2 o11"},
		{"L//a!=0;a!=a;a!=(a+1);", "9", "1", "o0 o0 o1"},
		// Branches.
		{"LL//ifa{b:=1;}{b:=2;}", "7 0", "7 1", "b1"},
		{"LL//ifa{b:=1;}{b:=2;}", "0 0", "0 2", "b0"},
		{"LL//ifa{}{b:=2;}", "255 0", "255 0", "b1"},
		{"LL//ifa{}{b:=2;}", "0 0", "0 2", "b0"},
		{"LL//ifa{b:=1;}{}", "1 0", "1 1", "b1"},
		{"LL//ifa{b:=1;}{}", "0 0", "0 0", "b0"},
		{"LL//ifa{}{}", "128 3", "128 3", "b1"},
		{"LL//if(a-b){a:=0;}{}", "1 2", "0 2", "b1"},
		{"LL//if(a<b){ifb{a!=9;}{a!=8;}b:=0;}{ifa{a!=7;}{}}b:=(b+1);", "1 2", "9 1", "b1 b1 o9"},
		{"LL//if(a<b){ifb{a!=9;}{a!=8;}b:=0;}{ifa{a!=7;}{}}b:=(b+1);", "2 2", "7 3", "b0 b1 o7"},
		// A condition that its own branch changes.
		{"L//ifa{a:=0;}{a:=1;}", "1", "0", "b1"},
		{"L//ifa{a:=0;}{a:=1;}", "0", "1", "b0"},
		{"LL//ifa{a:=0;b:=1;a:=0;}{a:=1;b:=2;}", "5 0", "0 1", "b1"},
		{"LL//ifa{a:=0;b:=1;}{a:=1;b:=2;a:=1;}", "0 0", "1 2", "b0"},
		{"L/L/ifP[a]{P[a]:=0;}{P[a]:=5;}", "1/0 8 0 0", "1/0 0 0 0", "r1 b1 w1"},
		{"L/L/repeat3{ifP[a]{P[a]:=0;}{P[a]:=5;}}", "1/0 8 0 0", "1/0 0 0 0", "r1 b1 w1 r1 b0 w1 r1 b1 w1"},
		{"L//repeat3{ifa{a:=0;}{a:=1;}}", "0", "1", "b0 b1 b0"},
		// Repetitions.
		{"L//repeat1{a:=(a+1);}", "3", "4", ""},
		{"L//repeat2{a:=(a+1);}", "3", "5", ""},
		{"L//repeat3{a:=(a+1);}", "3", "6", ""},
		{"L//repeat1{a!=(a*2);}", "3", "6", "o6"},
		{"L//repeat3{a!=(a*2);}", "3", "24", "o6 o12 o24"},
		{"L//repeat3{}", "3", "3", ""},
		{"L/L/repeat3{P[a]:=a;a:=(a+1);}", "2/9 9 9 9", "5/4 9 2 3", "w2 w3 w0"},
		{"L//repeat3{repeat2{a:=(a+1);}a!=(a*2);}", "0", "28", "o4 o12 o28"},
		{"L//repeat2{repeat3{a!=(a+1);}repeat1{a:=(a+100);}}", "0", "206", "o1 o2 o3 o104 o105 o106"},
		{"L//repeat3{repeat3{repeat3{repeat3{a:=(a+1);}}}}", "0", "81", ""},
		{"LL//b:=3;repeat3{ifb{b:=(b-1);repeat3{a:=(a+b);}}{a:=0;}}", "0 0", "9 0", "b1 b1 b1"},
		// Several of them.
		{"LH/HL/repeat2{a:=((b*b)-1);}b!=(Q[a]?P[1]:P[2]);", "0 4/10 11 12 13/0 0 0 7", "15 11/10 11 12 13/0 0 0 7", "r7 r1 r2 o11"},
		{"LLLLLLLLLLLL/LL/l:=(a+k);ifl{Q[l]:=b;}{P[l]:=c;}k!=Q[3];", "1 2 3 4 5 6 7 8 9 10 10 12/0 0 0 0/0 0 0 0", "1 2 3 4 5 6 7 8 9 10 2 11/0 0 0 0/0 0 0 2", "b1 w7 r7 o2"},
	}
	for _, row := range rows {
		checkRun(t, row.text, row.before, row.after, row.trace)
	}
}

func TestRunsWithoutStatements(t *testing.T) {
	for _, row := range [][2]string{{"L//", "7"}, {"X//", "0"}, {"LHUX//", "0 1 254 255"}, {"L/U/", "0/1 2 3 4"}, {"LHUXLHUXLHUX/HU/", "1 2 3 4 5 6 7 8 9 10 11 12/0 255 0 255/1 2 3 4"}} {
		checkRun(t, row[0], row[1], row[1], "")
	}
	p := impl.Program{Vars: []int{0}, Arrays: []int{}, Body: []impl.Stmt{}}
	for _, m := range []impl.Memory{{Vals: []int{7}}, {Vals: []int{7}, Arrays: [][]int{}}} {
		out, events, ok := impl.RunProgram(p, m)
		if !ok || memoryText(out) != "7" || len(events) != 0 {
			t.Errorf("RunProgram = %v, %v, %v", out, events, ok)
		}
	}
}

func TestLongRun(t *testing.T) {
	read9 := operation(impl.ExprAdd, read(0, variable(0)), operation(impl.ExprAdd, read(0, constant(1)), operation(impl.ExprAdd, read(0, constant(2)), read(0, constant(3)))))
	body := slices.Repeat([]impl.Stmt{storeTo(0, variable(0), read9)}, 56)
	p := impl.Program{Vars: []int{0}, Arrays: []int{0}, Body: []impl.Stmt{repeat(3, repeat(3, repeat(3, repeat(3, body...))))}}
	m := memoryIn("2/1 2 3 4")
	events := plainRun(m, p.Body)
	out, got, ok := impl.RunProgram(p, memoryIn("2/1 2 3 4"))
	if !ok || len(got) != 81*56*5 || !slices.Equal(got, events) || memoryText(out) != memoryText(m) {
		t.Errorf("a run with %d events has the wrong memory %s or the wrong trace, of %d events", len(events), memoryText(out), len(got))
	}
}

func TestRunsOfManyPrograms(t *testing.T) {
	numbers := source(3)
	seen := map[int]int{}
	for range 4000 {
		p := numbers.someProgram(6)
		m := numbers.someMemory(p)
		after := clonedMemory(m)
		events := plainRun(after, p.Body)
		out, got, ok := impl.RunProgram(p, m)
		if !ok || memoryText(out) != memoryText(after) || plainTrace(got) != plainTrace(events) {
			t.Errorf("%s on %s = %s, %v, want %s, %v", impl.FormatProgram(p), memoryText(m), memoryText(out), got, memoryText(after), events)
		}
		e := numbers.someExpr(p, 4)
		if impl.ExprValid(p, e) {
			want, events := plainValue(m, e)
			checkValue(t, p, m, e, int(want), impl.FormatTrace(events))
		}
		for _, event := range events {
			seen[event.Kind]++
		}
	}
	for kind := impl.EventBranch; kind <= impl.EventRelease; kind++ {
		if seen[kind] < 500 {
			t.Errorf("only %d events of kind %d occurred", seen[kind], kind)
		}
	}
}

// checkCut checks that running first and then second is running both at once.
func checkCut(t *testing.T, p impl.Program, m impl.Memory, first []impl.Stmt, second []impl.Stmt) {
	t.Helper()
	whole, all, ok := impl.RunProgram(p, m)
	p.Body = first
	middle, before, okFirst := impl.RunProgram(p, m)
	p.Body = second
	last, behind, okSecond := impl.RunProgram(p, middle)
	if !ok || !okFirst || !okSecond || !impl.MemorySame(last, whole) || !impl.TraceSame(slices.Concat(before, behind), all) {
		t.Errorf("%q in two parts: %s, %v, %v, at once: %s, %v", impl.FormatProgram(p), memoryText(last), before, behind, memoryText(whole), all)
	}
	if text := strings.TrimSpace(impl.FormatTrace(before) + " " + impl.FormatTrace(behind)); text != impl.FormatTrace(all) {
		t.Errorf("%q in two parts has the trace %q, at once %q", impl.FormatProgram(p), text, impl.FormatTrace(all))
	}
}

func TestRunsInTwoParts(t *testing.T) {
	numbers := source(4)
	cuts := 0
	for range 1500 {
		p := numbers.someProgram(5)
		p.Body = append(p.Body, numbers.someProgram(1).Body...)
		if !impl.ProgramValid(p) {
			continue
		}
		m := numbers.someMemory(p)
		for at := range len(p.Body) + 1 {
			checkCut(t, p, m, p.Body[:at], p.Body[at:])
			cuts++
		}
	}
	if cuts < 2000 {
		t.Errorf("only %d cuts were tried", cuts)
	}
}

func TestRepetitionInTwoParts(t *testing.T) {
	numbers := source(5)
	for range 500 {
		p := numbers.someProgram(5)
		m, body := numbers.someMemory(p), p.Body
		if p.Body = []impl.Stmt{repeat(3, body...)}; !impl.ProgramValid(p) {
			continue
		}
		checkCut(t, p, m, body, []impl.Stmt{repeat(2, body...)})
		checkCut(t, p, m, []impl.Stmt{repeat(2, body...)}, body)
		checkCut(t, p, m, []impl.Stmt{repeat(2, body...)}, []impl.Stmt{repeat(1, body...)})
		p.Body = []impl.Stmt{repeat(1, body...)}
		checkCut(t, p, m, body, nil)
		checkCut(t, p, m, nil, body)
	}
}

func TestValidMemories(t *testing.T) {
	for _, row := range [][2]string{
		{"L//", "0"}, {"L//", "255"}, {"LH//", "0 255"}, {"L/L/", "1/0 255 0 255"}, {"X/XX/", "1/0 0 0 0/255 255 255 255"},
		{"LHUXLHUXLHUX/HU/", "1 2 3 4 5 6 7 8 9 10 11 12/1 2 3 4/5 6 7 8"}, {"LH/L/ifb{a:=1;}{}", "1 2/3 4 5 6"},
	} {
		checkValidMemory(t, parsed(t, row[0]), memoryIn(row[1]))
	}
	checkValidMemory(t, smallest(), impl.Memory{Vals: []int{0}, Arrays: [][]int{}})
	shared := []int{1, 2, 3, 4}
	checkValidMemory(t, parsed(t, "LHUX/HU/"), impl.Memory{Vals: shared, Arrays: [][]int{shared, shared}})
}

// invalidMemories returns, for programs, texts of what is not a memory of them.
func invalidMemories() map[string][]string {
	return map[string][]string{
		"L//":                       {"", "1 2", "1 2 3", "-1", "256", "1000", "1/0 0 0 0", "1/", "/1", "1//"},
		"LH//":                      {"", "1", "1 2 3", "-1 0", "0 -1", "256 0", "0 256", "1 2/0 0 0 0"},
		"LHUX/L/":                   {"1 2 3/0 0 0 0", "1 2 3 4 5/0 0 0 0", "1 2 3 4", "1 2 3 4/0 0 0 0/0 0 0 0", "1 2 3 4/", "1 2 3 4/0", "1 2 3 4/0 0 0", "1 2 3 4/0 0 0 0 0", "1 2 3 4/0 0 0 0 0 0 0 0", "/0 0 0 0"},
		"L/HU/":                     {"1", "1/0 0 0 0", "1/0 0 0 0/0 0 0 0/0 0 0 0", "1/0 0 0/0 0 0 0", "1/0 0 0 0/0 0 0", "1/0 0 0 0 0/0 0 0 0", "1/0 0 0 0/0 0 0 0 0", "1/0 0 0/0 0 0 0 0", "1//0 0 0 0", "1/0 0 0 0/"},
		"LHUXLHUXLHUX/HU/":          {"1 2 3 4 5 6 7 8 9 10 11/1 2 3 4/5 6 7 8", "1 2 3 4 5 6 7 8 9 10 11 12 13/1 2 3 4/5 6 7 8"},
		"LH/L/P[a]:=b;ifb{a:=1;}{}": {"1 2", "1 2/1 2 3", "1/1 2 3 4", "0 0/1 2 3 4 5"},
	}
}

func TestInvalidMemories(t *testing.T) {
	for text, list := range invalidMemories() {
		for _, m := range list {
			checkInvalidMemory(t, m+" for "+text, parsed(t, text), memoryIn(m))
		}
	}
	for _, n := range []int{-1, 256, 257, -255, -256, 511, 512, 1 << 32, math.MaxInt, math.MinInt} {
		p := parsed(t, "LHUX/HU/")
		for v := range 4 {
			m := memoryIn("1 2 3 4/1 2 3 4/5 6 7 8")
			m.Vals[v] = n
			checkInvalidMemory(t, "variable "+strconv.Itoa(v)+" = "+strconv.Itoa(n), p, m)
			for a := range 2 {
				m = memoryIn("1 2 3 4/1 2 3 4/5 6 7 8")
				m.Arrays[a][v] = n
				checkInvalidMemory(t, "element "+strconv.Itoa(v)+" = "+strconv.Itoa(n), p, m)
			}
		}
	}
	checkInvalidMemory(t, "no memory", smallest(), impl.Memory{})
	checkInvalidMemory(t, "very many values", smallest(), impl.Memory{Vals: make([]int, veryDeep), Arrays: make([][]int, veryDeep)})
}

func TestMemoriesOfInvalidPrograms(t *testing.T) {
	m := memoryIn("1/1 2 3 4")
	programs := map[string]impl.Program{
		"no label":             {Vars: []int{4}, Arrays: []int{0}},
		"no label of an array": {Vars: []int{0}, Arrays: []int{-1}},
		"no statement":         {Vars: []int{0}, Arrays: []int{0}, Body: make([]impl.Stmt, 1)},
		"no variable b":        {Vars: []int{0}, Arrays: []int{0}, Body: []impl.Stmt{assign(1, constant(0))}},
		"no array Q":           {Vars: []int{0}, Arrays: []int{0}, Body: []impl.Stmt{assign(0, read(1, constant(0)))}},
		"repetition 0":         {Vars: []int{0}, Arrays: []int{0}, Body: []impl.Stmt{repeat(0)}},
		"repetition 4":         {Vars: []int{0}, Arrays: []int{0}, Body: []impl.Stmt{repeat(4)}},
		"an inner statement":   {Vars: []int{0}, Arrays: []int{0}, Body: []impl.Stmt{ifElse(constant(0), []impl.Stmt{{}}, nil)}},
		"61 statements":        {Vars: []int{0}, Arrays: []int{0}, Body: slices.Repeat([]impl.Stmt{repeat(1)}, 61)},
		"depth":                {Vars: []int{0}, Arrays: []int{0}, Body: []impl.Stmt{deepStmt(1)}},
		"circle":               {Vars: []int{0}, Arrays: []int{0}, Body: []impl.Stmt{circularStmt(1)}},
	}
	for what, p := range programs {
		checkInvalidMemory(t, what, p, m)
	}
	checkInvalidMemory(t, "no program", impl.Program{}, impl.Memory{})
	checkInvalidMemory(t, "no variables", impl.Program{Arrays: []int{0}}, memoryIn("/1 2 3 4"))
	checkInvalidMemory(t, "13 variables", impl.Program{Vars: make([]int, 13)}, impl.Memory{Vals: make([]int, 13)})
	checkInvalidMemory(t, "3 arrays", impl.Program{Vars: []int{0}, Arrays: make([]int, 3)}, memoryIn("1/1 2 3 4/1 2 3 4/1 2 3 4"))
}

// invalidExprs returns expressions that are not valid in a program with two variables and an array, each for another reason.
func invalidExprs() map[string]impl.Expr {
	return map[string]impl.Expr{
		"nothing": {}, "kind 12": {Kind: 12}, "kind -1": {Kind: -1},
		"constant -1": constant(-1), "constant 256": constant(256),
		"variable -1": variable(-1), "variable 2": variable(2),
		"array -1": read(-1, constant(0)), "array 1": read(1, constant(0)),
		"a read of no variable": read(0, variable(2)), "a read of a read": read(0, read(0, constant(0))),
		"a read of a sum": read(0, operation(impl.ExprAdd, constant(0), constant(1))), "a read of nothing": {Kind: impl.ExprRead},
		"a read of two": {Kind: impl.ExprRead, Kids: []impl.Expr{constant(1), constant(1)}},
		"no operands":   {Kind: impl.ExprAdd}, "one operand": operation(impl.ExprSub, constant(1)),
		"three operands":            operation(impl.ExprMul, constant(1), constant(1), constant(1)),
		"two operands of a select":  operation(impl.ExprSelect, constant(1), constant(1)),
		"four operands of a select": operation(impl.ExprSelect, constant(1), constant(1), constant(1), constant(1)),
		"a Value":                   {Kind: impl.ExprLess, Value: 1, Kids: []impl.Expr{constant(1), constant(1)}},
		"operands of a constant":    {Kind: impl.ExprConst, Kids: []impl.Expr{constant(1)}},
		"operands of a variable":    {Kind: impl.ExprVar, Kids: []impl.Expr{constant(1)}},
		"an invalid second operand": operation(impl.ExprAdd, read(0, constant(1)), variable(2)),
		"an invalid third operand":  operation(impl.ExprSelect, constant(1), read(0, constant(1)), variable(2)),
		"depth 6":                   chainOf(6), "17 nodes": bushOf(17), "great depth": deepExpr(1), "a circle": circularExpr(1),
	}
}

func TestInvalidExpressionsAreNotEvaluated(t *testing.T) {
	p := parsed(t, "LH/L/a:=1;")
	m := memoryIn("1 2/3 4 5 6")
	for what, e := range invalidExprs() {
		if n, events, ok := impl.EvalExpr(p, m, e); n != 0 || len(events) != 0 || ok {
			t.Errorf("%s: EvalExpr = %d, %v, %v", what, n, events, ok)
		}
	}
	checkValue(t, p, m, chainOf(5), 5, "")
	checkValue(t, p, m, bushOf(15), 8, "")
}

// checkParts checks the two parts of a memory.
func checkParts(t *testing.T, text string, memory string, public string, trusted string) {
	t.Helper()
	p, m := parsed(t, text), memoryIn(memory)
	if part, ok := impl.PublicPart(p, m); !ok || memoryText(part) != public {
		t.Errorf("PublicPart of %s for %s = %s, %v, want %s", memory, text, memoryText(part), ok, public)
	}
	if part, ok := impl.TrustedPart(p, m); !ok || memoryText(part) != trusted {
		t.Errorf("TrustedPart of %s for %s = %s, %v, want %s", memory, text, memoryText(part), ok, trusted)
	}
}

func TestPartsOfMemories(t *testing.T) {
	checkParts(t, "L//", "7", "7", "7")
	checkParts(t, "H//", "7", "0", "7")
	checkParts(t, "U//", "7", "7", "0")
	checkParts(t, "X//", "7", "0", "0")
	checkParts(t, "LHUX//", "1 2 3 4", "1 0 3 0", "1 2 0 0")
	checkParts(t, "XUHL//", "255 254 253 252", "0 254 0 252", "0 0 253 252")
	checkParts(t, "L/LH/", "9/1 2 3 4/5 6 7 8", "9/1 2 3 4/0 0 0 0", "9/1 2 3 4/5 6 7 8")
	checkParts(t, "X/UX/", "9/1 2 3 4/5 6 7 8", "0/1 2 3 4/0 0 0 0", "0/0 0 0 0/0 0 0 0")
	checkParts(t, "H/U/a:=P[0];", "9/1 2 3 4", "0/1 2 3 4", "9/0 0 0 0")
	checkParts(t, "UH/HX/ifb{a:=1;}{}", "8 9/1 2 3 4/5 6 7 8", "8 0/0 0 0 0/0 0 0 0", "0 9/1 2 3 4/0 0 0 0")
	checkParts(t, "LHUXLHUXLHUX/HU/", "1 2 3 4 5 6 7 8 9 10 11 12/1 2 3 4/5 6 7 8",
		"1 0 3 0 5 0 7 0 9 0 11 0/0 0 0 0/5 6 7 8", "1 2 0 0 5 6 0 0 9 10 0 0/1 2 3 4/0 0 0 0")
}

func TestPartsAtAllLabels(t *testing.T) {
	for l := range 4 {
		for array := range 4 {
			p := impl.Program{Vars: []int{l, array}, Arrays: []int{array, l}}
			m := memoryIn("5 6/1 2 3 4/252 253 254 255")
			public, okPublic := impl.PublicPart(p, m)
			trusted, okTrusted := impl.TrustedPart(p, m)
			wantPublic, wantTrusted := clonedMemory(m), clonedMemory(m)
			for place, label := range []int{l, array} {
				if impl.LabelSecret(label) {
					wantPublic.Vals[place], wantPublic.Arrays[1-place] = 0, make([]int, 4)
				}
				if !impl.LabelTrusted(label) {
					wantTrusted.Vals[place], wantTrusted.Arrays[1-place] = 0, make([]int, 4)
				}
			}
			if !okPublic || !okTrusted || memoryText(public) != memoryText(wantPublic) || memoryText(trusted) != memoryText(wantTrusted) {
				t.Errorf("the parts for %q are %s and %s", impl.FormatProgram(p), memoryText(public), memoryText(trusted))
			}
			again, ok := impl.PublicPart(p, public)
			if !ok || !impl.MemorySame(again, public) {
				t.Errorf("the public part of %s is %s", memoryText(public), memoryText(again))
			}
		}
	}
}

func TestSameMemories(t *testing.T) {
	list := []impl.Memory{{}, {Vals: []int{0}}, {Vals: []int{1}}, {Vals: []int{-1}}, {Vals: []int{256}}, {Vals: []int{0, 0}}, {Arrays: make([][]int, 1)}, {Arrays: make([][]int, 2)}}
	for _, text := range []string{"0/0", "0/1", "0/0 0", "0/0/0", "0/0/1", "0/1/0", "1/0/0", "0/0 0 0 0/0", "0/0 0 0 0", "0 0/0 0 0 0", "1/2 3 4 5/6 7 8 9", "1/2 3 4 5/6 7 8 -9", "1/2 3 4 5/6 7 8", "1/6 7 8 9/2 3 4 5", "1000/2 3/4"} {
		list = append(list, memoryIn(text))
	}
	for i, a := range list {
		for j, b := range list {
			if got := impl.MemorySame(a, clonedMemory(b)); got != (i == j) {
				t.Errorf("MemorySame is %v for %v and %v", got, a, b)
			}
		}
	}
	empty := impl.Memory{Vals: []int{}, Arrays: [][]int{}}
	if !impl.MemorySame(empty, impl.Memory{}) || !impl.MemorySame(impl.Memory{}, empty) || !impl.MemorySame(impl.Memory{Arrays: [][]int{{}}}, impl.Memory{Arrays: [][]int{nil}}) || impl.MemorySame(impl.Memory{Arrays: [][]int{nil}}, impl.Memory{}) {
		t.Error("MemorySame tells nil from empty")
	}
}

func TestTextsOfTraces(t *testing.T) {
	rows := map[string][]impl.Event{
		"":                   {},
		"b0":                 {{Kind: 1}},
		"b1":                 {{Kind: 1, Value: 1}},
		"b255":               {{Kind: 1, Value: 255}},
		"r0":                 {{Kind: 2}},
		"r7":                 {{Kind: 2, Value: 7}},
		"r10":                {{Kind: 2, Value: 10}},
		"w0":                 {{Kind: 3}},
		"w255":               {{Kind: 3, Value: 255}},
		"o0":                 {{Kind: 4}},
		"o100":               {{Kind: 4, Value: 100}},
		"o255 w254 r9 b0 b0": {{Kind: 4, Value: 255}, {Kind: 3, Value: 254}, {Kind: 2, Value: 9}, {Kind: 1}, {Kind: 1}},
	}
	for want, list := range rows {
		if got := impl.FormatTrace(list); got != want {
			t.Errorf("FormatTrace of %v = %q, want %q", list, got, want)
		}
	}
	if got := impl.FormatTrace(nil); got != "" {
		t.Errorf("FormatTrace of nothing = %q", got)
	}
	many := slices.Repeat([]impl.Event{{Kind: 2, Value: 3}}, 1000)
	if got := impl.FormatTrace(many); got != strings.TrimSpace(strings.Repeat("r3 ", 1000)) {
		t.Errorf("FormatTrace of 1000 events = %q", got)
	}
}

func TestEventsWithoutText(t *testing.T) {
	var bad []impl.Event
	for _, kind := range []int{0, -1, 5, 6, 255, 257, math.MaxInt, math.MinInt} {
		bad = append(bad, impl.Event{Kind: kind}, impl.Event{Kind: kind, Value: 1})
	}
	for kind := 1; kind <= 4; kind++ {
		for _, n := range []int{-1, 256, 257, -256, 1 << 32, math.MaxInt, math.MinInt} {
			bad = append(bad, impl.Event{Kind: kind, Value: n})
		}
	}
	good := impl.Event{Kind: 1, Value: 1}
	for _, event := range bad {
		for _, list := range [][]impl.Event{{event}, {event, good, good}, {good, event, good}, {good, good, event}, {event, event}} {
			if got := impl.FormatTrace(list); got != "" {
				t.Errorf("FormatTrace of %v = %q", list, got)
			}
			if !impl.TraceSame(list, slices.Clone(list)) || impl.FirstDifference(list, slices.Clone(list)) != -1 {
				t.Errorf("%v is different from itself", list)
			}
			if impl.TraceSame(list, list[1:]) || impl.FirstDifference(list, list[:len(list)-1]) != len(list)-1 {
				t.Errorf("%v is the same as a part of it", list)
			}
		}
	}
}

func TestFirstDifference(t *testing.T) {
	full := []impl.Event{{Kind: 1, Value: 1}, {Kind: 2, Value: 3}, {Kind: 3, Value: 3}, {Kind: 4, Value: 255}, {Kind: 2, Value: 3}}
	check := func(a []impl.Event, b []impl.Event, want int) {
		t.Helper()
		if got := impl.FirstDifference(a, b); got != want {
			t.Errorf("FirstDifference of %v and %v = %d, want %d", a, b, got, want)
		}
		if got := impl.FirstDifference(b, a); got != want {
			t.Errorf("FirstDifference of %v and %v = %d, want %d", b, a, got, want)
		}
		if impl.TraceSame(a, b) != (want == -1) || impl.TraceSame(b, a) != (want == -1) {
			t.Errorf("TraceSame of %v and %v is wrong", a, b)
		}
	}
	check(nil, nil, -1)
	check(nil, []impl.Event{}, -1)
	check([]impl.Event{{}}, []impl.Event{{}}, -1)
	for length := range len(full) + 1 {
		check(full[:length], slices.Clone(full[:length]), -1)
		if length < len(full) {
			check(full, full[:length], length)
		}
	}
	check(nil, []impl.Event{{}}, 0)
	for at := range full {
		for _, event := range []impl.Event{{}, {Kind: full[at].Kind, Value: full[at].Value + 1}, {Kind: full[at].Kind + 1, Value: full[at].Value}, {Kind: -full[at].Kind, Value: full[at].Value}, {Kind: full[at].Kind, Value: math.MinInt}} {
			other := slices.Clone(full)
			other[at] = event
			check(full, other, at)
			check(full, other[:at+1], at)
			check(full[:at+1], other, at)
			if at+1 < len(full) {
				other[at+1] = impl.Event{Kind: 9}
				check(full, other, at)
			}
		}
	}
}

// spareMemory returns m with unused capacity behind every slice, which has the value 77.
func spareMemory(m impl.Memory) impl.Memory {
	spare := func(list []int) []int { return append(slices.Grow(slices.Clone(list), 2), 77, 77)[:len(list)] }
	m.Vals = spare(m.Vals)
	arrays := make([][]int, len(m.Arrays), len(m.Arrays)+1)
	for a := range m.Arrays {
		arrays[a] = spare(m.Arrays[a])
	}
	arrays[:cap(arrays)][len(arrays)] = []int{77}
	m.Arrays = arrays
	return m
}

// isSpareKept reports whether the unused capacity is as spareMemory made it.
func isSpareKept(m impl.Memory) bool {
	kept := func(list []int) bool { return slices.Equal(list[len(list):len(list)+2], []int{77, 77}) }
	for _, elements := range m.Arrays {
		if !kept(elements) {
			return false
		}
	}
	return kept(m.Vals) && slices.Equal(m.Arrays[:cap(m.Arrays)][len(m.Arrays)], []int{77})
}

func TestSemanticsKeepsArguments(t *testing.T) {
	p := parsed(t, "LHUX/HU/a:=(P[c]+1);if(b-2){repeat2{Q[3]:=(b?a:c);}}{}c!=(d<255);P[a]:=((b&7)^P[0]);")
	p.Vars, p.Arrays, p.Body = slices.Grow(p.Vars, 3), slices.Grow(p.Arrays, 3), slices.Grow(p.Body, 3)
	fillSpareProgram(p)
	keptProgram := clonedProgram(p)
	m := spareMemory(memoryIn("1 200 3 4/10 20 30 40/50 60 70 80"))
	kept := clonedMemory(m)
	e := p.Body[0].Value
	keptExpr := clonedExpr(e)
	events := append(make([]impl.Event, 0, 5), impl.Event{Kind: 1, Value: 1}, impl.Event{Kind: 4, Value: 9}, impl.Event{Kind: 77})[:2]
	impl.MemoryValid(p, m)
	impl.MemorySame(m, m)
	impl.EvalExpr(p, m, e)
	impl.RunProgram(p, m)
	impl.PublicPart(p, m)
	impl.TrustedPart(p, m)
	impl.FormatTrace(events)
	impl.TraceSame(events, events[:1])
	impl.FirstDifference(events, events[:1])
	if !reflect.DeepEqual(p, keptProgram) || !reflect.DeepEqual(m, kept) || !reflect.DeepEqual(e, keptExpr) {
		t.Errorf("a function changed its argument: %v, %v, %v", p, m, e)
	}
	if !isSpareKept(m) || p.Vars[:5][4] != 77 || p.Arrays[:3][2] != 77 || p.Body[:5][4].Count != 77 {
		t.Error("a function changed what is beyond its argument")
	}
	if !slices.Equal(events[:3], []impl.Event{{Kind: 1, Value: 1}, {Kind: 4, Value: 9}, {Kind: 77}}) {
		t.Errorf("a function changed a trace: %v", events[:3])
	}
}

// overwriteMemory changes everything that m reaches, including unused capacity.
func overwriteMemory(m impl.Memory) {
	for _, list := range append(slices.Clone(m.Arrays[:cap(m.Arrays)]), m.Vals) {
		list = list[:cap(list)]
		for i := range list {
			list[i] = 77
		}
	}
	clear(m.Arrays[:cap(m.Arrays)])
}

func overwriteTrace(list []impl.Event) {
	list = list[:cap(list)]
	for i := range list {
		list[i] = impl.Event{Kind: 77, Value: 77}
	}
}

func TestSemanticsResultsShareNoMemory(t *testing.T) {
	p := parsed(t, "LHUX/LL/a:=P[1];b!=(a+Q[2]);P[2]:=b;")
	m := memoryIn("1 2 3 4/10 20 30 40/50 60 70 80")
	kept := clonedMemory(m)
	makers := map[string]func() (impl.Memory, []impl.Event){
		"RunProgram": func() (impl.Memory, []impl.Event) { out, events, _ := impl.RunProgram(p, m); return out, events },
		"RunProgram without statements": func() (impl.Memory, []impl.Event) {
			out, events, _ := impl.RunProgram(impl.Program{Vars: p.Vars, Arrays: p.Arrays}, m)
			return out, events
		},
		"EvalExpr": func() (impl.Memory, []impl.Event) {
			_, events, _ := impl.EvalExpr(p, m, p.Body[1].Value)
			return impl.Memory{}, events
		},
		"PublicPart":  func() (impl.Memory, []impl.Event) { part, _ := impl.PublicPart(p, m); return part, nil },
		"TrustedPart": func() (impl.Memory, []impl.Event) { part, _ := impl.TrustedPart(p, m); return part, nil },
	}
	for what, maker := range makers {
		first, events := maker()
		second, others := maker()
		text, trace := memoryText(second), plainTrace(others)
		overwriteMemory(first)
		overwriteTrace(events)
		if memoryText(second) != text || plainTrace(others) != trace || !reflect.DeepEqual(m, kept) {
			t.Errorf("a result of %s shares memory with another result or with an argument", what)
		}
		m.Vals[0], m.Arrays[0][1] = 99, 99
		if memoryText(second) != text || plainTrace(others) != trace {
			t.Errorf("a result of %s shares memory with an argument", what)
		}
		m = clonedMemory(kept)
		third, more := maker()
		if memoryText(third) != text || plainTrace(more) != trace {
			t.Errorf("%s keeps state", what)
		}
	}
}

func TestResultsOfOneSlice(t *testing.T) {
	p := parsed(t, "LHUX/LL/a:=9;P[1]:=8;Q[2]:=7;")
	shared := []int{1, 2, 3, 4}
	m := impl.Memory{Vals: shared, Arrays: [][]int{shared, shared}}
	out, _, ok := impl.RunProgram(p, m)
	if !ok || memoryText(out) != "9 2 3 4/1 8 3 4/1 2 7 4" || !slices.Equal(shared, []int{1, 2, 3, 4}) {
		t.Errorf("RunProgram = %s, %v and the argument is %v", memoryText(out), ok, shared)
	}
	part, ok := impl.PublicPart(parsed(t, "LHUX/LH/"), m)
	if !ok || memoryText(part) != "1 0 3 0/1 2 3 4/0 0 0 0" || !slices.Equal(shared, []int{1, 2, 3, 4}) {
		t.Errorf("PublicPart = %s, %v and the argument is %v", memoryText(part), ok, shared)
	}
	long := []int{1, 2, 3, 4, 5, 6, 7, 8, 9, 10, 11, 12}
	overlapping := impl.Memory{Vals: long[:4], Arrays: [][]int{long[2:6], long[4:8]}}
	for _, maker := range []func() impl.Memory{
		func() impl.Memory { out, _, _ := impl.RunProgram(parsed(t, "LLLL/LL/"), overlapping); return out },
		func() impl.Memory { out, _ := impl.PublicPart(parsed(t, "LLLL/LL/"), overlapping); return out },
		func() impl.Memory { out, _ := impl.TrustedPart(parsed(t, "LLLL/LL/"), overlapping); return out },
	} {
		out := maker()
		for i, list := range [][]int{out.Vals, out.Arrays[0], out.Arrays[1]} {
			list = list[:cap(list)]
			for j := range list {
				list[j] = 100 + i
			}
		}
		if memoryText(out) != "100 100 100 100/101 101 101 101/102 102 102 102" || !slices.Equal(long, []int{1, 2, 3, 4, 5, 6, 7, 8, 9, 10, 11, 12}) {
			t.Errorf("parts of a result share memory: %s, %v", memoryText(out), long)
		}
	}
}

func TestRunsAtTheSameTime(t *testing.T) {
	p := parsed(t, "LHUX/LL/repeat3{a:=(P[b]+c);b!=(a+Q[2]);P[b]:=b;ifb{Q[a]:=1;}{}}")
	m := memoryIn("1 2 3 4/10 20 30 40/50 60 70 80")
	out, events, _ := impl.RunProgram(p, m)
	want := memoryText(out) + " " + plainTrace(events)
	var group sync.WaitGroup
	for range 8 {
		group.Go(func() {
			for range 200 {
				out, events, ok := impl.RunProgram(p, m)
				if !ok || memoryText(out)+" "+plainTrace(events) != want {
					t.Errorf("RunProgram = %s, %s, %v", memoryText(out), plainTrace(events), ok)
				}
			}
		})
	}
	group.Wait()
}

func TestNoGoroutineIsLeft(t *testing.T) {
	p := parsed(t, "LHUX/LL/repeat3{a:=(P[b]+c);}")
	m := memoryIn("1 2 3 4/10 20 30 40/50 60 70 80")
	before := runtime.NumGoroutine()
	for range 300 {
		impl.RunProgram(p, m)
		impl.EvalExpr(p, m, p.Body[0].Body[0].Value)
		impl.EvalExpr(p, m, impl.Expr{})
		impl.RunProgram(p, impl.Memory{})
	}
	for range 100 {
		if runtime.NumGoroutine() <= before {
			return
		}
		time.Sleep(10 * time.Millisecond)
	}
	t.Errorf("%d goroutines are left", runtime.NumGoroutine()-before)
}
