package tests

import (
	"math"
	"reflect"
	"slices"
	"strconv"
	"strings"
	"sync"
	"testing"

	"loop.example/constanttime/impl"
)

// liveTable states for each operation, as the document does, the fields of the registers that it reads, and whether it writes r[A].
var liveTable = map[string]struct {
	reads  string
	writes bool
}{
	"const": {"", true}, "get": {"", true}, "put": {"B", false}, "load": {"C", true}, "store": {"BC", false}, "bin": {"CD", true}, "select": {"BCD", true},
	"jump": {}, "zero": {"A", false}, "loop": {"A", true}, "release": {"A", false}, "fence": {}, "halt": {},
}

// plainlyReads reports whether an instruction reads a register.
func plainlyReads(in impl.Instr, r int) bool {
	return slices.ContainsFunc([]byte(liveTable[opTable[in.Op].name].reads), func(letter byte) bool { return *fieldOf(&in, int(letter-'A')) == r })
}

// plainlyWrites reports whether an instruction writes a register.
func plainlyWrites(in impl.Instr, r int) bool {
	return liveTable[opTable[in.Op].name].writes && in.A == r
}

// plainLive returns LiveRegs of valid code. A register is live from where it is read back along every way, until an instruction writes it.
func plainLive(c impl.Code) [][]bool {
	live, before := make([][]bool, len(c.List)), make([][]int, len(c.List))
	for at := range c.List {
		live[at] = make([]bool, 14)
		for _, next := range plainFollowers(c, at) {
			before[next] = append(before[next], at)
		}
	}
	for r := range 14 {
		var mark func(at int)
		mark = func(at int) {
			if live[at][r] {
				return
			}
			live[at][r] = true
			for _, other := range before[at] {
				if !plainlyWrites(c.List[other], r) {
					mark(other)
				}
			}
		}
		for at, in := range c.List {
			if plainlyReads(in, r) {
				mark(at)
			}
		}
	}
	return live
}

// isPlainlyLiveAfter reports whether a register is live after an instruction of valid code.
func isPlainlyLiveAfter(c impl.Code, live [][]bool, at int, r int) bool {
	return slices.ContainsFunc(plainFollowers(c, at), func(next int) bool { return live[next][r] })
}

// isPlainlySufficient is CheckLive for valid code.
func isPlainlySufficient(c impl.Code, live [][]bool) bool {
	if len(live) != len(c.List) || slices.ContainsFunc(live, func(row []bool) bool { return len(row) != 14 }) {
		return false
	}
	for at, in := range c.List {
		for r := range 14 {
			if !live[at][r] && (plainlyReads(in, r) || isPlainlyLiveAfter(c, live, at, r) && !plainlyWrites(in, r)) {
				return false
			}
		}
	}
	return true
}

// plainlyUseful returns RemoveDead of valid code, for each instruction of it which one it is of c, and how many rounds remove some.
func plainlyUseful(c impl.Code) (impl.Code, []int, int) {
	var from []int
	for at := range c.List {
		from = append(from, at)
	}
	for rounds := 0; ; rounds++ {
		live, next := plainLive(c), clonedCode(c)
		for at, in := range slices.Backward(c.List) {
			name := opTable[in.Op].name
			if (name == "const" || name == "get" || name == "bin" || name == "select") && !isPlainlyLiveAfter(c, live, at, in.A) {
				next, from = withoutInstr(next, at), slices.Delete(from, at, at+1)
			}
		}
		if len(next.List) == len(c.List) {
			return c, from, rounds
		}
		c = next
	}
}

// eraser is what erased code ends with.
const eraser = "const 0 0; const 1 0; const 2 0; const 3 0; const 4 0; const 5 0; const 6 0; const 7 0; const 8 0; const 9 0; const 10 0; const 11 0; const 12 0; const 13 0; halt"

// plainlyErased returns EraseCode of valid code, however long it is.
func plainlyErased(c impl.Code) impl.Code {
	result := clonedCode(c)
	if !slices.Contains(c.List, instr(impl.OpHalt)) {
		return result
	}
	for at, in := range c.List {
		if in.Op == impl.OpHalt {
			result.List[at] = instr(impl.OpJump, len(c.List))
		}
	}
	for r := range 14 {
		result.List = append(result.List, instr(impl.OpConst, r, 0))
	}
	result.List = append(result.List, instr(impl.OpHalt))
	return result
}

// plainlyCompacted returns CompactRegs of valid code, and the registers of c in the order of their new numbers.
func plainlyCompacted(c impl.Code) (impl.Code, []int) {
	result := clonedCode(c)
	var order []int
	for at, in := range c.List {
		for i := range 4 {
			if opTable[in.Op].fields[i] != 'r' {
				continue
			}
			field := fieldOf(&result.List[at], i)
			if !slices.Contains(order, *field) {
				order = append(order, *field)
			}
			*field = slices.Index(order, *field)
		}
	}
	return result, order
}

// plainFinalRegs returns the registers when valid code halts, if it does.
func plainFinalRegs(c impl.Code, m impl.Memory) ([]int, bool) {
	s := impl.Machine{Regs: make([]int, 14), Mem: clonedMemory(m)}
	for range 20000 {
		halts := c.List[s.Pc].Op == impl.OpHalt
		if plainStep(c, &s); halts {
			return s.Regs, true
		}
	}
	return nil, false
}

// cleaners are the functions of this chapter that change code.
var cleaners = []struct {
	name  string
	apply func(c impl.Code) (impl.Code, bool)
	plain func(c impl.Code) impl.Code
}{
	{"RemoveDead", impl.RemoveDead, func(c impl.Code) impl.Code { useful, _, _ := plainlyUseful(c); return useful }},
	{"EraseCode", impl.EraseCode, plainlyErased},
	{"CompactRegs", impl.CompactRegs, func(c impl.Code) impl.Code { compact, _ := plainlyCompacted(c); return compact }},
}

// checkLive checks the live map of valid code, and returns its text.
func checkLive(t *testing.T, c impl.Code) string {
	t.Helper()
	want, live := plainLive(c), impl.LiveRegs(c)
	if taintText(live) != taintText(want) {
		t.Errorf("LiveRegs of %q = %s, want %s", plainCodeText(c), taintText(live), taintText(want))
	}
	if !impl.CheckLive(c, live) {
		t.Errorf("CheckLive of %q does not accept %s", plainCodeText(c), taintText(live))
	}
	return taintText(live)
}

// checkCleaned checks what all functions return for valid code, and returns the results of those that change it. Erased code that would be too long is zero.
func checkCleaned(t *testing.T, c impl.Code) []impl.Code {
	t.Helper()
	checkLive(t, c)
	text := plainCodeText(c)
	var results []impl.Code
	for _, cleaner := range cleaners {
		want := cleaner.plain(c)
		got, ok := cleaner.apply(c)
		results = append(results, got)
		if len(want.List) > 400 {
			if ok || !isZeroCode(got) {
				t.Errorf("%s of %d instructions, which would become %d, = %d instructions, %v", cleaner.name, len(c.List), len(want.List), len(got.List), ok)
			}
			continue
		}
		if !ok || !reflect.DeepEqual(got.List, want.List) || !equalLists(got.Vars, c.Vars) || !equalLists(got.Arrays, c.Arrays) || !impl.CodeValid(got) {
			t.Fatalf("%s of %q = %v, %v, want %q", cleaner.name, text, got, ok, plainCodeText(want))
		}
		if again, ok := cleaner.apply(got); cleaner.name != "EraseCode" && (!ok || !impl.CodeSame(again, got)) {
			t.Errorf("%s of %q = %q, %v, though it is a result of it", cleaner.name, plainCodeText(got), plainCodeText(again), ok)
		}
	}
	_, order := plainlyCompacted(c)
	if first, second := impl.RegsUsed(c), impl.RegsUsed(results[2]); first != len(order) || second != len(order) {
		t.Errorf("RegsUsed of %q = %d, and of CompactRegs of it %d, want %d", text, first, second, len(order))
	}
	return results
}

// withoutSteps returns the events of a run of c without the steps of instructions that are not in from. The others get their numbers there.
func withoutSteps(trace []impl.Event, from []int) []impl.Event {
	var list []impl.Event
	for _, event := range trace {
		if event.Kind == impl.EventStep {
			if event.Value = slices.Index(from, event.Value); event.Value < 0 {
				continue
			}
		}
		list = append(list, event)
	}
	return list
}

// checkRemovedRun checks that code without dead instructions does what the code does, apart from the steps of these.
func checkRemovedRun(t *testing.T, c impl.Code, useful impl.Code, m impl.Memory) {
	t.Helper()
	want, trace, _ := impl.RunCode(c, m)
	out, events, ok := impl.RunCode(useful, m)
	_, from, _ := plainlyUseful(c)
	if expected := withoutSteps(trace, from); !ok || memoryText(out) != memoryText(want) || !slices.Equal(events, expected) || !slices.Equal(plainlyProjected(events), plainlyProjected(trace)) {
		t.Errorf("%q makes %s of %s with %s, and %q, without dead instructions, makes %s with %s, %v, want the events %s", plainCodeText(c), memoryText(want), memoryText(m), eventsText(trace), plainCodeText(useful), memoryText(out), eventsText(events), ok, eventsText(expected))
	}
}

// checkErasedRun checks that erased code does what the code does and then clears all registers, if there are enough steps.
func checkErasedRun(t *testing.T, c impl.Code, erased impl.Code, m impl.Memory) {
	t.Helper()
	want, trace, _ := impl.RunCode(c, m)
	out, events, ok := impl.RunCode(erased, m)
	regs, ended := impl.FinalRegs(erased, m)
	steps := strings.Count(eventsText(trace), "s")
	if steps+15 > 20000 {
		if ok || ended {
			t.Errorf("erased code halts, though %d instructions would be executed", steps+15)
		}
		return
	}
	for i := range 15 {
		trace = append(trace, impl.Event{Kind: impl.EventStep, Value: len(c.List) + i})
	}
	if !ok || memoryText(out) != memoryText(want) || !slices.Equal(events, trace) {
		t.Errorf("%q makes %s of %s, and %q, which erases its registers, makes %s with %s, %v, want the events %s", plainCodeText(c), memoryText(want), memoryText(m), plainCodeText(erased), memoryText(out), eventsText(events), ok, eventsText(trace))
	}
	if !ended || !slices.Equal(regs, make([]int, 14)) {
		t.Errorf("FinalRegs of %q with %s = %v, %v", plainCodeText(erased), memoryText(m), regs, ended)
	}
}

// checkCompactRun checks that code with other registers does what the code does, with these.
func checkCompactRun(t *testing.T, c impl.Code, compact impl.Code, m impl.Memory) {
	t.Helper()
	want, trace, _ := impl.RunCode(c, m)
	out, events, ok := impl.RunCode(compact, m)
	if !ok || memoryText(out) != memoryText(want) || !slices.Equal(events, trace) {
		t.Errorf("%q makes %s of %s with %s, and %q, with compact registers, makes %s with %s, %v", plainCodeText(c), memoryText(want), memoryText(m), eventsText(trace), plainCodeText(compact), memoryText(out), eventsText(events), ok)
	}
	before, _ := impl.FinalRegs(c, m)
	_, order := plainlyCompacted(c)
	renumbered := make([]int, 14)
	for number, r := range order {
		renumbered[number] = before[r]
	}
	if after, ok := impl.FinalRegs(compact, m); !ok || !slices.Equal(after, renumbered) {
		t.Errorf("FinalRegs of %q with %s = %v, %v, want %v", plainCodeText(compact), memoryText(m), after, ok, renumbered)
	}
}

// checkCleanedRun checks FinalRegs of valid code, and that what it becomes computes the same memory. It returns whether the code halts.
func checkCleanedRun(t *testing.T, c impl.Code, results []impl.Code, m impl.Memory) bool {
	t.Helper()
	want, halts := plainFinalRegs(c, m)
	if regs, ok := impl.FinalRegs(c, m); ok != halts || !slices.Equal(regs, want) {
		t.Errorf("FinalRegs of %q with %s = %v, %v, want %v, %v", plainCodeText(c), memoryText(m), regs, ok, want, halts)
	}
	if halts {
		checkRemovedRun(t, c, results[0], m)
		if !isZeroCode(results[1]) {
			checkErasedRun(t, c, results[1], m)
		}
		checkCompactRun(t, c, results[2], m)
	}
	return halts
}

// checkCleanedRuns checks what code and its results do with some memories, until the code does not halt soon. It returns how often it does.
func checkCleanedRuns(t *testing.T, c impl.Code, results []impl.Code, numbers *source, count int) int {
	t.Helper()
	for halted := range count {
		m := numbers.someMemory(impl.Program{Vars: c.Vars, Arrays: c.Arrays})
		if _, halts := plainEventsOf(c, m, 500); !halts {
			return halted
		}
		checkCleanedRun(t, c, results, m)
	}
	return count
}

// checkStaysChecked checks that CheckCode says the same of code and of what it becomes, and returns what that is.
func checkStaysChecked(t *testing.T, c impl.Code, results []impl.Code) int {
	t.Helper()
	want, wantAt := impl.CheckCode(c)
	_, from, _ := plainlyUseful(c)
	for i, result := range results {
		if isZeroCode(result) {
			continue
		}
		got, at := impl.CheckCode(result)
		if cleaners[i].name == "RemoveDead" && at >= 0 {
			at = from[at]
		}
		if got != want || at != wantAt {
			t.Errorf("CheckCode of %q = %d, %d, but of %s of it, %q, it is %d, at what was %d", plainCodeText(c), want, wantAt, cleaners[i].name, plainCodeText(result), got, at)
		}
	}
	return want
}

// rowText writes registers like a row of taintText.
func rowText(list []int) string {
	if len(list) == 0 {
		return "."
	}
	slices.Sort(list)
	return numbersText(slices.Compact(list))
}

// operationRow is an instruction with the registers that it reads and those that it writes, as in LHU/HX.
type operationRow struct{ line, reads, writes string }

var operationRows = []operationRow{
	{"const 3 7", "", "3"}, {"const 0 13", "", "0"}, {"get 3 1", "", "3"}, {"get 2 2", "", "2"}, {"put 1 3", "3", ""}, {"put 2 2", "2", ""},
	{"load 3 1 5", "5", "3"}, {"load 0 0 13", "13", "0"}, {"store 1 3 5", "3 5", ""}, {"store 0 1 2", "1 2", ""}, {"bin 3 4 5 6", "5 6", "3"}, {"bin 0 10 1 2", "1 2", "0"}, {"select 3 4 5 6", "4 5 6", "3"}, {"select 13 0 1 2", "0 1 2", "13"},
	{"jump 1", "", ""}, {"zero 3 1", "3", ""}, {"zero 0 1", "0", ""}, {"loop 3 1", "3", "3"}, {"loop 0 1", "0", "0"}, {"release 3", "3", ""}, {"release 13", "13", ""}, {"fence", "", ""},
	// A register that is read and written, or read twice.
	{"load 3 1 3", "3", "3"}, {"load 0 0 0", "0", "0"}, {"bin 3 4 3 6", "3 6", "3"}, {"bin 3 4 6 3", "3 6", "3"}, {"bin 3 4 3 3", "3", "3"}, {"bin 3 4 6 6", "6", "3"}, {"select 3 3 5 6", "3 5 6", "3"}, {"select 3 4 3 6", "3 4 6", "3"}, {"select 3 4 5 3", "3 4 5", "3"}, {"select 3 3 3 3", "3", "3"}, {"select 3 4 4 4", "4", "3"}, {"store 1 3 3", "3", ""}, {"loop 13 1", "13", "13"},
}

func TestLivenessOfEveryOperation(t *testing.T) {
	numbers := source(120)
	sets := [][]int{nil, {0, 1, 2, 3, 4, 5, 6, 7, 8, 9, 10, 11, 12, 13}}
	for r := range 14 {
		sets = append(sets, []int{r})
	}
	for range 20 {
		var set []int
		for r := range 14 {
			if numbers.below(2) == 0 {
				set = append(set, r)
			}
		}
		sets = append(sets, set)
	}
	for _, row := range operationRows {
		for _, after := range sets {
			list := row.line
			for _, r := range after {
				list += "; put 0 " + strconv.Itoa(r)
			}
			before := numbersIn(row.reads)
			for _, r := range after {
				if strconv.Itoa(r) != row.writes {
					before = append(before, r)
				}
			}
			c := codeIn(t, "LHU/HX", list+"; halt")
			if got, want := taintText(impl.LiveRegs(c)[:2]), rowText(before)+"; "+rowText(slices.Clone(after)); got != want {
				t.Errorf("LiveRegs of %s in front of %v = %s, want %s", row.line, after, got, want)
			}
			checkCleaned(t, c)
		}
	}
	// Nothing is live before a halt, whatever is behind it.
	if got := checkLive(t, codeIn(t, "LHU/HX", "halt; put 0 1; select 3 4 5 6; halt")); got != ".; 1 4 5 6; 4 5 6; ." {
		t.Errorf("LiveRegs = %s", got)
	}
}

func TestLivenessBehindBranches(t *testing.T) {
	for list, want := range map[string]string{
		// A register that is only read on one side, on the other, on both, or another one on each.
		"get 1 0; zero 0 3; put 0 1; halt": "0; 0 1; 1; .", "get 1 0; zero 0 4; halt; fence; put 0 1; halt": "0; 0 1; .; 1; 1; .", "get 1 0; loop 0 3; put 0 1; halt": "0; 0 1; 1; .", "get 1 0; loop 0 4; halt; fence; put 0 1; halt": "0; 0 1; .; 1; 1; .",
		"zero 0 3; put 0 1; halt; put 0 2; halt": "0 1 2; 1; .; 2; .", "loop 0 3; put 0 1; halt; put 0 2; halt": "0 1 2; 1; .; 2; .", "zero 0 3; put 0 1; halt; put 0 1; halt": "0 1; 1; .; 1; .", "zero 0 3; put 0 0; halt; put 0 2; halt": "0 2; 0; .; 2; .",
		// The counter after the loop is what is read on one side.
		"loop 0 3; put 0 0; halt; put 0 2; halt": "0 2; 0; .; 2; .", "loop 0 3; put 0 1; halt; put 0 0; halt": "0 1; 1; .; 0; .",
		// Written on one side, on the other and on both.
		"zero 0 2; const 1 5; put 0 1; halt": "0 1; .; 1; .", "zero 0 3; const 1 5; jump 4; const 1 6; put 0 1; halt": "0; .; 1; .; 1; .", "zero 0 3; const 1 5; jump 3; put 0 1; halt": "0 1; .; 1; 1; .", "zero 1 2; bin 1 4 1 2; put 0 1; halt": "1 2; 1 2; 1; .",
		// Branches in branches.
		"zero 0 4; zero 1 5; put 0 2; halt; put 0 3; put 0 4; halt": "0 1 2 3 4; 1 2 4; 2; .; 3 4; 4; .", "zero 0 4; zero 1 4; get 2 0; jump 5; const 2 1; put 0 2; halt": "0 1; 1; .; 2; .; 2; .",
		// To the next instruction.
		"zero 0 1; put 0 1; halt": "0 1; 1; .", "loop 0 1; put 0 0; halt": "0; 0; .", "zero 0 1; zero 1 2; halt": "0 1; 1; .", "jump 1; put 0 4; halt": "4; 4; .",
		// Jumps forwards and backwards.
		"jump 3; put 0 1; halt; put 0 2; jump 1": "1 2; 1; .; 1 2; 1", "jump 2; put 0 7; const 7 1; halt": ".; 7; .; .", "jump 2; halt; put 0 3; jump 1": "3; .; 3; .",
	} {
		if got := checkLive(t, codeIn(t, "LH/L", list)); got != want {
			t.Errorf("LiveRegs of %s = %s, want %s", list, got, want)
		}
	}
}

func TestLivenessInLoops(t *testing.T) {
	for list, want := range map[string]string{
		// A counter, which is read and written.
		"const 0 3; loop 0 1; halt": ".; 0; .", "loop 0 0; halt": "0; .", "const 0 3; fence; loop 0 1; halt": ".; 0; 0; .", "const 0 3; loop 0 1; put 0 0; halt": ".; 0; 0; .", "const 0 3; put 0 0; loop 0 1; halt": ".; 0; 0; .", "const 0 3; const 0 1; loop 0 1; halt": ".; .; 0; .", "get 0 0; loop 0 0; halt": ".; 0; .", "loop 0 0; loop 0 0; halt": "0; 0; .", "loop 0 0; loop 1 0; halt": "0 1; 0 1; .",
		// A register that is live around a loop, or from one round to the next, or only within a round.
		"get 1 0; const 0 3; fence; loop 0 2; put 0 1; halt": ".; 1; 0 1; 0 1; 1; .", "const 0 3; put 0 1; get 1 0; loop 0 1; halt": "1; 0 1; 0; 0 1; .", "const 0 3; get 1 0; put 0 1; loop 0 1; halt": ".; 0; 0 1; 0; .", "const 0 3; bin 1 4 1 2; loop 0 1; halt": "1 2; 0 1 2; 0 1 2; .", "const 0 3; bin 1 4 1 2; loop 0 1; put 0 1; halt": "1 2; 0 1 2; 0 1 2; 1; .", "const 0 3; load 1 0 1; loop 0 1; halt": "1; 0 1; 0 1; .",
		"const 0 3; const 1 5; loop 0 1; put 0 1; halt": ".; 0; 0 1; 1; .", "get 1 0; const 0 3; get 1 1; loop 0 2; put 0 1; halt": ".; .; 0; 0 1; 1; .", "get 1 0; zero 0 4; get 0 0; jump 1; put 0 1; halt": "0; 0 1; 1; 0 1; 1; .",
		// Around nested loops, around the inner one, and only in it.
		"get 1 0; const 2 3; const 3 3; fence; loop 3 3; loop 2 2; put 0 1; halt": ".; 1; 1 2; 1 2 3; 1 2 3; 1 2; 1; .", "const 2 3; get 1 0; const 3 3; fence; loop 3 3; put 0 1; loop 2 1; halt": ".; 2; 1 2; 1 2 3; 1 2 3; 1 2; 2; .", "const 2 3; const 3 3; get 1 0; put 0 1; loop 3 2; loop 2 1; halt": ".; 2; 2 3; 1 2 3; 2 3; 2; .",
		"const 2 3; const 3 3; put 0 1; get 1 0; loop 3 2; loop 2 1; halt": "1; 1 2; 1 2 3; 2 3; 1 2 3; 1 2; .", "const 2 3; put 0 1; const 3 3; fence; loop 3 3; get 1 0; loop 2 1; halt": "1; 1 2; 2; 2 3; 2 3; 2; 1 2; .", "const 2 3; fence; loop 3 1; loop 2 1; halt": "3; 2 3; 2 3; 2 3; .",
		// A register that is written and read by one instruction.
		"bin 0 4 0 0; put 0 0; halt": "0; 0; .", "bin 0 4 0 0; halt": "0; .", "load 2 0 2; halt": "2; .", "select 1 1 2 3; put 0 1; halt": "1 2 3; 1; .", "select 1 2 1 3; halt": "1 2 3; .", "bin 0 4 0 1; jump 0": "0 1; 0 1",
		// Code that never halts.
		"jump 0": ".", "put 0 1; jump 0": "1; 1", "const 1 2; jump 0": ".; .", "put 0 1; get 1 0; jump 0": "1; .; 1", "get 3 0; jump 0; put 0 3; halt": ".; .; 3; .", "zero 1 0; jump 0": "1; 1", "get 3 0; jump 3; jump 4; jump 2; jump 3": ".; .; .; .; .", "get 3 0; jump 3; put 0 3; jump 2": ".; 3; 3; 3",
		// Instructions that cannot be reached.
		"halt; put 0 1; halt": ".; 1; .", "jump 2; put 0 5; halt": ".; 5; .", "jump 2; loop 3 1; put 0 4; halt": "4; 3 4; 4; .", "halt; zero 3 0; put 0 3; jump 1": ".; 3; 3; 3", "jump 3; put 0 1; jump 3; get 1 0; halt": ".; 1; .; .; .", "halt; jump 1": ".; .", "const 0 1; halt; put 0 0; halt": ".; .; 0; .",
		// One instruction, the document's example, and one with everything.
		"halt": ".", "const 1 5; get 1 0; put 0 1; halt": ".; .; 1; .", "const 1 5; get 1 0; const 2 7; bin 3 4 1 2; put 0 1; halt": ".; .; 1; 1 2; 1; .", everyOperation: ".; .; 1; 1; 1 2; 1 2; 1 2 3; 4; .; .",
	} {
		if got := checkLive(t, codeIn(t, "LH/L", list)); got != want {
			t.Errorf("LiveRegs of %s = %s, want %s", list, got, want)
		}
	}
}

func TestLivenessAtTheLimits(t *testing.T) {
	// A register that is live through all instructions, from the first or only from the second one on.
	rows := func(first string, size int, last string) string {
		return first + strings.Repeat("; 13", size-2) + "; " + last
	}
	for _, size := range []int{3, 57, 399, 400} {
		c := withInstr("L/", size, size-2, instr(impl.OpPut, 0, 13))
		if got := checkLive(t, c); got != rows("13", size, ".") {
			t.Errorf("LiveRegs of a put at the end of %d instructions = %s", size, got)
		}
		c.List[0] = instr(impl.OpGet, 13, 0)
		if got := checkLive(t, c); got != rows(".", size, ".") && size > 3 {
			t.Errorf("LiveRegs of a get and a put in %d instructions = %s", size, got)
		}
		c.List[size-1] = instr(impl.OpJump, 1)
		if got := checkLive(t, c); got != rows(".", size, "13") {
			t.Errorf("LiveRegs of a get and a put in a loop of %d instructions = %s", size, got)
		}
		checkCleaned(t, c)
	}
	// The way leads back through all jumps, or forwards.
	back, there := codeOf("L/", instr(impl.OpJump, 399), instr(impl.OpPut, 0, 7)), codeOf("L/")
	for at := 2; at < 400; at++ {
		back.List = append(back.List, instr(impl.OpJump, at-1))
	}
	for at := range 398 {
		there.List = append(there.List, instr(impl.OpJump, at+1))
	}
	there.List = append(there.List, instr(impl.OpPut, 0, 7), instr(impl.OpJump, 0))
	for _, c := range []impl.Code{back, there} {
		if got := checkLive(t, c); got != "7"+strings.Repeat("; 7", 399) {
			t.Errorf("LiveRegs of many jumps = %s", got)
		}
	}
	// Each round makes one more register live at the beginning.
	for _, size := range []int{16, 17, 399, 400} {
		c := relay(size)
		checkCleaned(t, c)
		c.List[0], c.List[len(c.List)-2] = instr(impl.OpFence), instr(impl.OpPut, 0, 13)
		checkCleaned(t, c)
	}
	if got := checkLive(t, withInstr("L/", 400, 0, instr(impl.OpSelect, 0, 1, 2, 3))); got != "1 2 3"+strings.Repeat("; .", 399) {
		t.Errorf("LiveRegs of a select and fences = %s", got)
	}
}

func TestRegistersThatAreNotLiveDoNotMatter(t *testing.T) {
	numbers := source(121)
	tried, changed := 0, 0
	for i := range 6000 {
		c := numbers.someVerified(i)
		s := numbers.someMachine(c)
		other := clonedMachine(s)
		live := impl.LiveRegs(c)[s.Pc]
		for r := range 14 {
			if !live[r] {
				other.Regs[r] = numbers.below(256)
			}
		}
		if slices.Equal(s.Regs, other.Regs) {
			continue
		}
		tried++
		for range 60 {
			events := plainStep(c, &s)
			if others := plainStep(c, &other); !slices.Equal(events, others) || memoryText(s.Mem) != memoryText(other.Mem) || s.Pc != other.Pc {
				t.Fatalf("%q depends on a register that is not live", plainCodeText(c))
			}
		}
		if slices.ContainsFunc(s.Regs, func(n int) bool { return n > 0 }) {
			changed++
		}
	}
	if tried < 4000 || changed < 3000 {
		t.Errorf("only %d states were tried, %d of them with registers that are not 0", tried, changed)
	}
}

func TestSufficientMaps(t *testing.T) {
	const all = "0 1 2 3 4 5 6 7 8 9 10 11 12 13"
	for _, row := range []acceptRow{
		{"LH/L", "halt", []string{".", "0", "3 7 13"}, []string{"-", ".; .", ".; -", "-; ."}},
		{"LH/L", "jump 0", []string{".", "0", "1 13"}, []string{"-"}},
		{"LH/L", "jump 1; jump 0", []string{".; .", "3; 3", "1 2; 1 2"}, []string{"3; .", ".; 3", "3; 4", "1 2; 2"}},
		{"LH/L", "put 0 1; halt", []string{"1; .", "1; 1", "0 1; .", "1 5; 5", "0 1 2; 2"}, []string{".; .", "0; .", "1; 0", ".; 1", "2; .", "1 5; 6"}},
		{"LH/L", "const 1 5; put 0 1; halt", []string{".; 1; .", "1; 1; .", "0; 1; .", ".; 1; 1", "2; 1 2; .", "2; 1 2; 2"}, []string{".; 1 2; .", "1; .; .", ".; .; .", ".; 1; 2", "2; 1; 2", "2; 2; ."}},
		{"LH/L", "get 1 1; put 0 1; halt", []string{".; 1; .", "1; 1; 1"}, []string{".; .; .", "1; .; .", "2; 1; 2"}},
		{"LH/L", "load 3 0 4; halt", []string{"4; .", "4; 3", "3 4; 3", "4; 4", "4 5; 5"}, []string{".; .", "3; .", "3; 3", "4; 5", ".; 4"}},
		{"LH/L", "store 0 1 2; halt", []string{"1 2; .", "0 1 2; 0"}, []string{"1; .", "2; .", "0 1; .", "1 2; 0"}},
		{"LH/L", "bin 3 4 5 6; halt", []string{"5 6; .", "5 6; 3", "5 6 7; 7"}, []string{"3 5; .", "5; .", "6; .", "4 5; .", "5 6; 4"}},
		{"LH/L", "bin 3 4 3 6; halt", []string{"3 6; .", "3 6; 3"}, []string{"6; .", "6; 3", "3; ."}},
		{"LH/L", "select 3 4 5 6; halt", []string{"4 5 6; .", "4 5 6; 3", "3 4 5 6; ."}, []string{"3 4 5; .", "4 5; .", "4 6; .", "5 6; .", "3 5 6; ."}},
		{"LH/L", "release 3; halt", []string{"3; .", "3; 3", "3 4; 4"}, []string{".; .", ".; 3", "3; 4"}},
		{"LH/L", "fence; halt", []string{".; .", "3; .", "3; 3"}, []string{".; 3", "4; 3"}},
		{"LH/L", "zero 0 2; put 0 1; halt", []string{"0 1; 1; .", "0 1 3; 1 3; 3", "0 1 3; 1 3; ."}, []string{"0; 1; .", "1; 1; .", "0 1; 1; 3", "0 1 3; 1; 3", "0 1; 1 3; 3", "0 1; 1 3; ."}},
		{"LH/L", "zero 0 2; halt; put 0 1; halt", []string{"0 1; .; 1; .", "0 1; 1; 1; .", "0 1 2; 2; 1; ."}, []string{"0; .; 1; .", "0 1; 2; 1; .", "0 1; .; .; ."}},
		{"LH/L", "const 0 3; loop 0 1; halt", []string{".; 0; .", "0; 0; .", ".; 0; 0", "5; 0 5; .", "5; 0 5; 5"}, []string{".; .; .", "0; .; .", ".; 0; 5", ".; 0 5; .", ".; 5; .", "5; 0; 5"}},
		{"LH/L", "loop 0 0; put 0 1; halt", []string{"0 1; 1; .", "0 1 2; 1; .", "0 1 2; 1 2; 2"}, []string{"0; 1; .", "1; 1; .", "0 1; 1 2; ."}},
		// What cannot be reached counts, too.
		{"LH/L", "halt; put 0 1; halt", []string{".; 1; .", "0; 1; .", ".; 1; 1", ".; 1 2; 2"}, []string{".; .; .", "1; .; .", ".; 1; 2", ".; -; .", ".; 0; ."}},
		{"LH/L", "jump 0; zero 5 0; jump 1", []string{".; 5; 5", "3; 3 5; 3 5"}, []string{".; 5; .", ".; .; .", "3; 5; 5", ".; 3 5; 5"}},
	} {
		c := codeIn(t, row.declared, row.list)
		full := strings.TrimSuffix(strings.Repeat(all+"; ", len(c.List)), "; ")
		for i, list := range [][]string{row.no, append(row.yes, full)} {
			for _, text := range list {
				if got := impl.CheckLive(c, taintIn(text)); got != (i == 1) {
					t.Errorf("CheckLive of %s and %s = %v", row.list, text, got)
				}
				if plain := isPlainlySufficient(c, taintIn(text)); plain != (i == 1) {
					t.Errorf("the plain result of %s and %s is %v", row.list, text, plain)
				}
			}
		}
		if got := checkLive(t, c); got != row.yes[0] {
			t.Errorf("LiveRegs of %s = %s, want %s", row.list, got, row.yes[0])
		}
	}
}

// checkChangedLive checks CheckLive of maps that differ from the least one of valid code in one register, and returns how many of those with one more are sufficient and are not.
func checkChangedLive(t *testing.T, c impl.Code) (int, int) {
	t.Helper()
	live, more, fewer := impl.LiveRegs(c), 0, 0
	for at := range c.List {
		for r := range 14 {
			added := !live[at][r]
			live[at][r] = added
			got, want := impl.CheckLive(c, live), isPlainlySufficient(c, live)
			if got != want {
				t.Errorf("CheckLive of %q and %s = %v", plainCodeText(c), taintText(live), got)
			}
			switch {
			case !added && want:
				t.Errorf("%q needs fewer registers than %s", plainCodeText(c), taintText(live))
			case want:
				more++
			case added:
				fewer++
			}
			live[at][r] = !added
		}
	}
	return more, fewer
}

func TestMapsWithOneRegisterMoreOrFewer(t *testing.T) {
	for _, row := range []struct {
		list      string
		yes, more int
	}{
		// Nothing leads to a first instruction, so that it may have any register. A register that is written may be live behind.
		{"halt", 14, 14}, {"jump 0", 14, 14}, {"const 0 1; halt", 15, 28}, {"fence; halt", 14, 28}, {"put 0 1; halt", 14, 27}, {"const 1 1; put 0 1; halt", 15, 41}, {"halt; halt", 28, 28}, {"jump 1; jump 0", 0, 28}, {"loop 0 0; halt", 14, 27}, {"load 0 0 0; halt", 14, 27}, {"zero 0 1; const 1 1; halt", 15, 41},
	} {
		yes, no := checkChangedLive(t, codeIn(t, "LH/L", row.list))
		if yes != row.yes || yes+no != row.more {
			t.Errorf("of %d maps with one more register %d are sufficient for %s, want %d of %d", yes+no, yes, row.list, row.yes, row.more)
		}
	}
	for _, list := range []string{everyOperation, machineCode, speculateCode, verifyCode} {
		checkChangedLive(t, codeIn(t, "LHU/HX", list))
	}
	checkChangedLive(t, relay(40))
	numbers := source(122)
	yes, no := 0, 0
	for i := range 400 {
		more, fewer := checkChangedLive(t, numbers.someVerified(i))
		yes, no = yes+more, no+fewer
	}
	if yes < 5000 || no < 50000 {
		t.Errorf("%d maps with one more register are sufficient and %d are not", yes, no)
	}
}

func TestLiveMapsOfAnotherForm(t *testing.T) {
	for _, list := range []string{"get 1 0; jump 3; fence; put 1 1; halt", "halt; fence; halt; halt; halt", "jump 0; jump 0; jump 0; jump 0; jump 0"} {
		c := codeIn(t, "LH/L", list)
		live := impl.LiveRegs(c)
		check := func(what string, wrong [][]bool, want bool) {
			t.Helper()
			if got := impl.CheckLive(c, wrong); got != want {
				t.Errorf("CheckLive of %s and a map with %s = %v", list, what, got)
			}
		}
		check("the right form", live, true)
		check("nothing", nil, false)
		check("no rows", [][]bool{}, false)
		for size := range len(live) {
			check("rows that are missing at the end", live[:size], false)
			check("rows that are missing at the beginning", live[size+1:], false)
			check("a row that is missing", slices.Delete(clonedTaint(live), size, size+1), false)
		}
		for at := range live {
			check("a row that is there twice", slices.Insert(clonedTaint(live), at, live[at]), false)
			check("an additional empty row", slices.Insert(clonedTaint(live), at, []bool{}), false)
			for _, size := range []int{0, 1, 2, 12, 13, 14, 15, 16, 28, veryDeep} {
				wrong := clonedTaint(live)
				wrong[at] = make([]bool, size)
				copy(wrong[at], live[at])
				check("a row of length "+strconv.Itoa(size)+" at "+strconv.Itoa(at), wrong, size == 14)
				if size > 14 {
					wrong[at][size-1] = true
					check("a further register at "+strconv.Itoa(at), wrong, false)
				}
			}
			wrong := clonedTaint(live)
			wrong[at] = nil
			check("nil as a row", wrong, false)
		}
		check("one more row", append(clonedTaint(live), make([]bool, 14)), false)
		check("one more row that is empty", append(clonedTaint(live), nil), false)
		check("very many rows", make([][]bool, veryDeep), false)
		// The rows may share memory.
		row := slices.Repeat([]bool{true}, 20)
		check("the same row everywhere", [][]bool{row[:14], row[:14], row[:14], row[:14], row[:14]}, true)
		check("rows that overlap", [][]bool{row[1:15], row[:14], row[2:16], row[6:], row[3:17]}, true)
		check("rows that overlap and are too long", [][]bool{row[1:15], row[:14], row, row[6:], row[3:17]}, false)
	}
}

func TestAllSmallLiveMaps(t *testing.T) {
	choices := verifyChoices()
	// All maps with three rows in which only the registers 0 and 1 are live.
	var maps [][][]bool
	for bits := range 64 {
		live := [][]bool{make([]bool, 14), make([]bool, 14), make([]bool, 14)}
		for i := range 6 {
			live[i/2][i%2] = bits>>i&1 != 0
		}
		maps = append(maps, live)
	}
	count, accepted := 0, 0
	for _, first := range choices {
		for _, second := range choices {
			for _, last := range choices[:4] {
				c := codeOf("LH/LH", first, second, last)
				results := checkCleaned(t, c)
				checkStaysChecked(t, c, results)
				count++
				least := slices.Repeat([]bool{true}, 6)
				for bits, live := range maps {
					want := isPlainlySufficient(c, live)
					if got := impl.CheckLive(c, live); got != want {
						t.Errorf("CheckLive of %q and %s = %v", plainCodeText(c), taintText(live), got)
					}
					if !want {
						continue
					}
					accepted++
					for i := range least {
						least[i] = least[i] && bits>>i&1 != 0
					}
				}
				// What is live in all sufficient maps is live in the least one.
				live := impl.LiveRegs(c)
				for i := range least {
					if live[i/2][i%2] != least[i] {
						t.Errorf("LiveRegs of %q = %s, and the registers of all sufficient maps are %s", plainCodeText(c), taintText(live), marks(least))
					}
				}
			}
		}
	}
	if count != 26*26*4 || accepted < 10000 {
		t.Errorf("%d codes and %d maps that are sufficient were tried", count, accepted)
	}
}

func TestRemovedInstructions(t *testing.T) {
	for list, want := range map[string]string{
		// Nothing is dead.
		"halt": "", "jump 0": "", "const 0 5; put 0 0; halt": "", "get 0 1; put 0 0; halt": "", "const 1 2; load 0 0 1; halt": "", "const 1 1; store 0 1 2; halt": "", "get 0 1; release 0; halt": "", "get 0 1; zero 0 2; halt": "", "const 0 3; loop 0 1; halt": "", "bin 0 4 1 2; put 0 0; halt": "", "select 0 1 2 3; put 0 0; halt": "", "jump 1; halt": "", "halt; halt": "", "fence; halt": "", "put 0 3; halt": "",
		// One of each kind that may be dead.
		"const 0 5; halt": "halt", "get 0 0; halt": "halt", "bin 0 4 1 2; halt": "halt", "select 0 1 2 3; halt": "halt", "const 13 5; put 0 0; halt": "put 0 0; halt", "put 0 0; get 13 1; halt": "put 0 0; halt", "release 3; bin 3 5 3 3; halt": "release 3; halt", "put 0 0; select 0 0 0 0; put 1 1; halt": "put 0 0; put 1 1; halt",
		// Other writes stay, though nothing reads what they write.
		"load 0 0 1; halt": "", "load 0 0 0; load 0 0 1; halt": "", "const 1 5; load 1 0 2; halt": "load 1 0 2; halt", "loop 0 1; halt": "", "loop 0 0; halt": "", "loop 0 1; const 0 5; put 0 0; halt": "", "load 0 0 1; const 0 5; put 0 0; halt": "", "const 0 2; load 1 0 0; const 1 0; halt": "const 0 2; load 1 0 0; halt", "get 0 0; loop 0 2; halt": "",
		// One that is overwritten before it is read.
		"const 1 5; get 1 0; put 0 1; halt": "get 1 0; put 0 1; halt", "const 0 1; const 0 2; const 0 3; put 0 0; halt": "const 0 3; put 0 0; halt", "const 0 1; load 0 0 1; put 0 0; halt": "load 0 0 1; put 0 0; halt", "const 0 1; load 0 0 0; halt": "", "const 0 1; bin 0 4 0 0; put 0 0; halt": "", "const 0 1; bin 0 4 1 1; put 0 0; halt": "bin 0 4 1 1; put 0 0; halt",
		"const 1 5; get 1 0; const 2 7; bin 3 4 1 2; put 0 1; halt": "get 1 0; put 0 1; halt", everyOperation: "get 1 1; put 0 1; load 2 0 1; store 0 2 1; bin 3 10 2 1; select 4 3 2 1; release 4; fence; halt",
		// Live on one side of a branch only, or on none.
		"const 1 5; zero 0 3; halt; put 0 1; halt": "", "const 1 5; zero 0 3; put 0 1; halt": "", "const 1 5; zero 0 3; const 1 6; put 0 1; halt": "", "const 1 5; zero 0 4; const 1 6; jump 5; const 1 7; put 0 1; halt": "zero 0 3; const 1 6; jump 4; const 1 7; put 0 1; halt", "const 1 5; zero 0 3; halt; halt": "zero 0 2; halt; halt",
		// In loops: what is read in the next round is live, also if nothing else reads it.
		"const 0 3; put 0 1; get 1 0; loop 0 1; halt": "", "const 0 3; bin 1 4 1 0; loop 0 1; halt": "", "bin 0 4 0 1; jump 0": "", "select 1 1 1 1; jump 0": "", "const 0 3; get 1 0; loop 0 1; halt": "const 0 3; loop 0 1; halt", "const 0 3; const 1 5; get 1 0; put 0 1; loop 0 1; halt": "const 0 3; get 1 0; put 0 1; loop 0 1; halt", "const 0 1; jump 0": "jump 0", "bin 0 4 1 1; jump 0": "jump 0", "const 0 1; const 0 3; loop 0 2; halt": "const 0 3; loop 0 1; halt",
		// What cannot be reached is dead by the same rule, and keeps nothing alive that does not lead to it.
		"halt; const 0 1; halt": "halt; halt", "halt; const 0 1; put 0 0; halt": "", "const 0 5; halt; put 0 0; halt": "halt; put 0 0; halt", "const 0 5; jump 3; put 0 0; halt": "jump 2; put 0 0; halt", "jump 2; get 0 0; halt": "jump 1; halt", "halt; get 3 0; zero 4 4; jump 1; put 0 3; halt": "",
		// Dead only when others have been removed.
		"const 1 5; bin 2 4 1 1; halt": "halt", "select 1 1 1 1; select 1 1 1 1; halt": "halt", "get 0 0; bin 1 4 0 0; bin 2 4 1 1; select 3 2 1 0; put 0 0; halt": "get 0 0; put 0 0; halt", "const 1 5; jump 2; bin 2 4 1 1; jump 4; select 3 2 2 2; put 0 0; halt": "jump 1; jump 2; put 0 0; halt", "const 0 3; bin 1 4 2 2; bin 3 4 1 1; loop 0 1; halt": "const 0 3; loop 0 1; halt", "const 1 5; zero 0 3; bin 2 4 1 1; halt": "zero 0 1; halt",
	} {
		if want == "" {
			want = list
		}
		c := codeIn(t, "LH/L", list)
		if got, ok := impl.RemoveDead(c); !ok || !reflect.DeepEqual(got, codeIn(t, "LH/L", want)) {
			t.Errorf("RemoveDead of %s = %q, %v, want %s", list, plainCodeText(got), ok, want)
		}
		numbers := source(len(list))
		results := checkCleaned(t, c)
		checkStaysChecked(t, c, results)
		checkCleanedRuns(t, c, results, &numbers, 10)
	}
}

func TestRemovedTargets(t *testing.T) {
	for list, want := range map[string]string{
		// The target of a branch, of each kind, of a jump and of several.
		"zero 0 2; put 0 0; const 1 5; halt": "zero 0 2; put 0 0; halt", "const 0 3; const 1 5; loop 0 1; halt": "const 0 3; loop 0 1; halt", "loop 0 2; halt; get 1 0; halt": "loop 0 2; halt; halt", "jump 2; halt; const 1 5; halt": "jump 2; halt; halt", "zero 0 3; zero 1 3; jump 3; get 2 0; halt": "zero 0 3; zero 1 3; jump 3; halt", "zero 0 3; loop 0 3; jump 3; bin 2 4 0 0; put 0 0; jump 3": "zero 0 3; loop 0 3; jump 3; put 0 0; jump 3",
		// The first instruction.
		"const 1 5; loop 0 0; halt": "loop 0 0; halt", "get 1 0; zero 0 0; halt": "zero 0 0; halt", "const 1 5; const 1 6; put 0 2; jump 0": "put 0 2; jump 0", "select 1 2 3 4; jump 0": "jump 0", "get 5 0; fence; loop 0 0; zero 1 0; jump 0": "fence; loop 0 0; zero 1 0; jump 0",
		// Several in a row, at each of them.
		"zero 0 3; zero 0 4; const 1 1; const 1 2; const 1 3; put 0 0; jump 2": "zero 0 2; zero 0 2; put 0 0; jump 2", "zero 0 3; zero 0 4; zero 0 5; const 1 1; get 2 0; bin 3 4 0 0; halt": "zero 0 3; zero 0 3; zero 0 3; halt", "zero 0 5; loop 0 4; jump 3; const 1 1; get 2 0; bin 3 4 1 2; release 0; jump 4": "zero 0 3; loop 0 3; jump 3; release 0; jump 3", "const 1 1; const 2 1; put 0 0; zero 0 0; zero 0 1; jump 2": "put 0 0; zero 0 0; zero 0 0; jump 0",
		// The next instruction becomes the target. Branches and jumps stay.
		"zero 0 2; const 1 5; halt": "zero 0 1; halt", "loop 0 3; const 1 5; get 1 0; halt": "loop 0 1; halt", "jump 2; const 1 1; halt": "jump 1; halt", "jump 2; get 1 0; zero 0 4; const 1 1; const 2 1; halt": "jump 1; zero 0 2; halt", "zero 0 1; const 1 1; halt": "zero 0 1; halt",
		// A target behind, in front of and between what is removed, forwards and backwards.
		"get 0 0; zero 0 4; const 1 1; jump 5; const 1 2; halt": "get 0 0; zero 0 3; jump 3; halt", "const 9 1; zero 0 3; const 9 2; put 0 0; const 9 3; zero 0 3; jump 1": "zero 0 1; put 0 0; zero 0 1; jump 0", "const 5 1; jump 3; halt; const 5 2; jump 2": "jump 2; halt; jump 1", "jump 3; const 5 1; halt; const 5 2; jump 1": "jump 2; halt; jump 1",
		// Targets that are removed in a later round.
		"zero 0 2; get 1 0; bin 2 4 1 1; select 3 2 2 2; halt": "zero 0 1; halt", "jump 2; halt; get 1 0; bin 2 4 1 1; jump 3": "jump 2; halt; jump 2", "const 1 1; zero 0 0; bin 2 4 1 1; jump 1": "zero 0 0; jump 0", "loop 0 1; get 1 0; loop 0 2; bin 2 4 1 1; loop 0 3; halt": "loop 0 1; loop 0 1; loop 0 2; halt",
	} {
		c := codeIn(t, "LH/L", list)
		if got, ok := impl.RemoveDead(c); !ok || !reflect.DeepEqual(got, codeIn(t, "LH/L", want)) {
			t.Errorf("RemoveDead of %s = %q, %v, want %s", list, plainCodeText(got), ok, want)
		}
		numbers := source(len(list))
		results := checkCleaned(t, c)
		checkStaysChecked(t, c, results)
		checkCleanedRuns(t, c, results, &numbers, 10)
	}
}

func TestRoundsOfRemoval(t *testing.T) {
	for list, want := range map[string]int{
		"halt": 0, everyOperation: 1, "const 0 1; halt": 1, "const 0 1; const 1 1; const 0 2; halt": 1, "const 1 5; bin 2 4 1 1; halt": 2, "bin 1 4 1 1; bin 1 4 1 1; bin 1 4 1 1; halt": 3, "get 0 0; bin 1 4 0 0; bin 2 4 1 1; select 3 2 1 0; halt": 4, "const 1 5; zero 0 3; bin 2 4 1 1; halt": 2, "bin 1 4 1 1; jump 0": 0,
	} {
		if _, _, rounds := plainlyUseful(codeIn(t, "LH/L", list)); rounds != want {
			t.Errorf("%s has %d rounds, want %d", list, rounds, want)
		}
	}
	for _, size := range []int{1, 2, 3, 50, 399, 400} {
		last := []impl.Instr{instr(impl.OpHalt)}
		// Each round removes the last one of them, or one removes all, or none does.
		for what, in := range map[string]impl.Instr{"bin 1": instr(impl.OpBin, 1, 4, 1, 1), "select 2": instr(impl.OpSelect, 2, 1, 1, 2), "const 1": instr(impl.OpConst, 1, 1), "get 1": instr(impl.OpGet, 1, 0)} {
			c := codeOf("L/", append(slices.Repeat([]impl.Instr{in}, size-1), last...)...)
			if got, ok := impl.RemoveDead(c); !ok || !slices.Equal(got.List, last) {
				t.Errorf("RemoveDead of %d of %s = %q, %v", size-1, what, plainCodeText(got), ok)
			}
		}
		stays := codeOf("L/L", append(slices.Repeat([]impl.Instr{instr(impl.OpLoad, 1, 0, 0)}, size-1), last...)...)
		if got, ok := impl.RemoveDead(stays); !ok || !impl.CodeSame(got, stays) {
			t.Errorf("RemoveDead of %d loads = %q, %v", size-1, plainCodeText(got), ok)
		}
		if size > 1 {
			stays.List = append(slices.Repeat([]impl.Instr{instr(impl.OpBin, 1, 4, 1, 1)}, size-1), instr(impl.OpJump, 0))
			if got, ok := impl.RemoveDead(stays); !ok || !impl.CodeSame(got, stays) {
				t.Errorf("RemoveDead of %d in a loop = %q, %v", size-1, plainCodeText(got), ok)
			}
		}
	}
}

func TestErasedCode(t *testing.T) {
	for list, want := range map[string]string{
		// One halt, several, and none.
		"halt": "jump 1; E", "const 0 5; put 0 0; halt": "const 0 5; put 0 0; jump 3; E", "halt; halt": "jump 2; jump 2; E", "halt; halt; halt": "jump 3; jump 3; jump 3; E", "jump 0": "jump 0", "fence; jump 0": "fence; jump 0", "zero 0 0; jump 1": "zero 0 0; jump 1", "jump 2; put 0 0; jump 1": "jump 2; put 0 0; jump 1",
		// The first instruction, the last one, and those in between.
		"halt; jump 0": "jump 2; jump 0; E", "halt; fence; halt": "jump 3; fence; jump 3; E", "fence; halt; jump 0": "fence; jump 3; jump 0; E", "halt; fence; jump 1": "jump 3; fence; jump 1; E", "put 0 0; halt; put 0 1; halt; put 0 2; jump 2": "put 0 0; jump 6; put 0 1; jump 6; put 0 2; jump 2; E",
		// Branches and jumps to halts still lead there.
		"zero 0 2; halt; halt": "zero 0 2; jump 3; jump 3; E", "loop 0 1; halt": "loop 0 1; jump 2; E", "get 0 0; zero 0 3; jump 4; halt; halt": "get 0 0; zero 0 3; jump 4; jump 5; jump 5; E", "jump 1; halt": "jump 1; jump 2; E", "jump 2; halt; loop 0 1; jump 1": "jump 2; jump 4; loop 0 1; jump 1; E", "const 0 3; loop 0 3; halt; halt": "const 0 3; loop 0 3; jump 4; jump 4; E",
		// What cannot be reached counts, too.
		"jump 0; halt": "jump 0; jump 2; E", "jump 2; halt; jump 0": "jump 2; jump 3; jump 0; E", everyOperation: strings.Replace(everyOperation, "halt", "jump 10; E", 1),
	} {
		c := codeIn(t, "LH/L", list)
		if got, ok := impl.EraseCode(c); !ok || !reflect.DeepEqual(got, codeIn(t, "LH/L", strings.Replace(want, "E", eraser, 1))) {
			t.Errorf("EraseCode of %s = %q, %v, want %s", list, plainCodeText(got), ok, want)
		}
		numbers := source(len(list))
		results := checkCleaned(t, c)
		checkStaysChecked(t, c, results)
		checkCleanedRuns(t, c, results, &numbers, 10)
	}
	// Erased code can be erased again.
	c, _ := impl.EraseCode(codeIn(t, "L/", "const 5 9; halt"))
	again, ok := impl.EraseCode(c)
	if !ok || !impl.CodeSame(again, codeIn(t, "L/", "const 5 9; jump 2; "+strings.Replace(eraser, "halt", "jump 17; ", 1)+eraser)) {
		t.Errorf("EraseCode of erased code = %q, %v", plainCodeText(again), ok)
	}
	checkCleanedRun(t, c, checkCleaned(t, c), memoryIn("7"))
}

func TestErasedCodeAtTheLimit(t *testing.T) {
	for _, size := range []int{1, 384, 385, 386, 387, 399, 400} {
		for what, c := range map[string]impl.Code{
			"a halt at the end": withInstr("L/", size, 0, instr(impl.OpHalt)), "only halts": codeOf("L/", slices.Repeat([]impl.Instr{instr(impl.OpHalt)}, size)...), "a halt at the front": codeOf("L/", append(slices.Repeat([]impl.Instr{instr(impl.OpHalt)}, 1), slices.Repeat([]impl.Instr{instr(impl.OpJump, 0)}, size-1)...)...),
		} {
			erased, ok := impl.EraseCode(c)
			if ok != (size <= 385) || ok && len(erased.List) != size+15 || !ok && !isZeroCode(erased) {
				t.Errorf("%s of %d instructions: EraseCode has %d instructions, %v", what, size, len(erased.List), ok)
			}
			checkCleanedRun(t, c, checkCleaned(t, c), memoryIn("7"))
		}
		// Code without a halt does not become longer.
		c := codeOf("L/", slices.Repeat([]impl.Instr{instr(impl.OpJump, size-1)}, size)...)
		if erased, ok := impl.EraseCode(c); !ok || !impl.CodeSame(erased, c) {
			t.Errorf("EraseCode of %d jumps = %d instructions, %v", size, len(erased.List), ok)
		}
	}
	if erased, ok := impl.EraseCode(withInstr("LH/", 385, 3, instr(impl.OpConst, 5, 9))); !ok || len(erased.List) != 400 || erased.List[384] != instr(impl.OpJump, 385) || erased.List[385] != instr(impl.OpConst) || erased.List[398] != instr(impl.OpConst, 13) || erased.List[399] != instr(impl.OpHalt) {
		t.Errorf("EraseCode of 385 instructions = %q, %v", plainCodeText(erased), ok)
	}
}

// regsIn returns registers of which those in a text like 0=5 13=255 are not 0.
func regsIn(text string) []int {
	s := impl.Machine{Regs: make([]int, 14)}
	setRegs(s, text)
	return s.Regs
}

func TestFinalRegs(t *testing.T) {
	m := memoryIn("10 20 30/40 41 42 43/50 51 52 53")
	for list, want := range map[string]string{
		// At once, and after what writes no register.
		"halt": "", "halt; const 1 5; halt": "", "put 0 3; store 0 1 2; release 3; fence; zero 5 5; halt": "", "jump 1; halt": "",
		// Each kind of instruction that writes one.
		"const 3 7; halt": "3=7", "const 0 0; halt": "", "const 13 255; halt": "13=255", "get 3 1; halt": "3=20", "load 3 1 4; halt": "3=50", "const 4 6; load 3 1 4; halt": "3=52 4=6", "const 4 6; load 4 0 4; halt": "4=42", "const 1 9; const 2 3; bin 3 4 1 2; halt": "1=9 2=3 3=12", "bin 3 9 1 2; halt": "3=1", "const 1 5; bin 1 5 0 1; halt": "1=251", "const 2 8; select 3 1 0 2; halt": "2=8 3=8", "const 1 4; const 2 8; select 1 1 2 0; halt": "1=8 2=8", "loop 3 1; halt": "3=255", "const 3 1; loop 3 0; halt": "", "const 3 9; loop 3 2; halt": "3=8",
		// Overwritten, and by way of the memory.
		"const 3 7; const 3 8; halt": "3=8", "const 3 7; const 3 0; halt": "", "const 1 77; put 0 1; get 2 0; halt": "1=77 2=77", "const 1 77; store 0 0 1; load 2 0 0; halt": "1=77 2=77", "get 0 0; get 1 1; get 2 2; halt": "0=10 1=20 2=30",
		// Loops.
		"const 3 3; loop 3 1; halt": "", "const 3 2; bin 4 4 4 3; loop 3 1; halt": "4=3", "const 3 2; const 4 2; const 5 1; bin 6 4 6 5; loop 4 3; const 4 2; loop 3 3; halt": "4=2 5=1 6=4", "const 3 3; get 1 0; bin 2 4 2 1; loop 3 2; halt": "1=10 2=30", "loop 3 0; halt": "", "get 0 0; const 1 1; zero 0 6; bin 0 5 0 1; bin 2 4 2 1; jump 2; halt": "1=1 2=10",
		// The halt that is reached first, which need not be the last one.
		"const 1 5; halt; const 1 6; halt": "1=5", "jump 2; halt; const 1 5; jump 1": "1=5", "get 0 0; zero 0 3; halt; const 1 7; halt": "0=10", "zero 0 3; const 2 6; halt; const 1 7; halt": "1=7",
		"const 0 1; const 1 2; const 2 3; const 3 4; const 4 5; const 5 6; const 6 7; const 7 8; const 8 9; const 9 10; const 10 11; const 11 12; const 12 13; const 13 14; halt": "0=1 1=2 2=3 3=4 4=5 5=6 6=7 7=8 8=9 9=10 10=11 11=12 12=13 13=14",
	} {
		c := codeIn(t, "LHU/HX", list)
		if regs, ok := impl.FinalRegs(c, m); !ok || !slices.Equal(regs, regsIn(want)) {
			t.Errorf("FinalRegs of %s = %v, %v, want %s", list, regs, ok, want)
		}
		// They are those at the end, also of erased code.
		if !checkCleanedRun(t, c, checkCleaned(t, c), m) {
			t.Errorf("%s does not halt", list)
		}
		erased, _ := impl.EraseCode(c)
		if regs, ok := impl.FinalRegs(erased, m); !ok || !slices.Equal(regs, make([]int, 14)) {
			t.Errorf("FinalRegs of EraseCode of %s = %v, %v", list, regs, ok)
		}
	}
}

func TestFinalRegsAndTheLimitOfSteps(t *testing.T) {
	for _, steps := range []int{19972, 19984, 19985, 19986, 19999, 20000, 20001, 20100} {
		c, m := longCode(steps, instr(impl.OpConst, 2, 5)), memoryIn("3/4 5 6 7")
		regs, ok := impl.FinalRegs(c, m)
		if want := regsIn("1=9 2=5"); ok != (steps <= 20000) || ok && !slices.Equal(regs, want) || !ok && len(regs) != 0 {
			t.Errorf("code that halts as instruction %d: FinalRegs = %v, %v", steps, regs, ok)
		}
		// Erasing takes 15 more instructions, and fewer are executed without those that are dead.
		results := checkCleaned(t, c)
		checkCleanedRun(t, c, results, m)
		if regs, ok := impl.FinalRegs(results[1], m); ok != (steps+15 <= 20000) || ok && !slices.Equal(regs, make([]int, 14)) || !ok && len(regs) != 0 {
			t.Errorf("code that halts as instruction %d: FinalRegs of EraseCode = %v, %v", steps, regs, ok)
		}
		if regs, ok := impl.FinalRegs(results[0], m); !ok || !slices.Equal(regs, regsIn("1=9")) {
			t.Errorf("code that halts as instruction %d: FinalRegs of RemoveDead = %v, %v", steps, regs, ok)
		}
	}
	for _, list := range []string{"jump 0", "fence; jump 0", "zero 0 0; halt", "const 0 2; loop 0 0; halt", "loop 0 0; jump 0", "const 3 7; jump 0; halt", "jump 2; halt; jump 2"} {
		c := codeIn(t, "L/", list)
		if regs, ok := impl.FinalRegs(c, memoryIn("5")); ok || len(regs) != 0 {
			t.Errorf("FinalRegs of %s = %v, %v", list, regs, ok)
		}
		checkCleaned(t, c)
	}
	c := codeIn(t, "L/", "get 0 0; zero 0 1; halt")
	if checkCleanedRun(t, c, checkCleaned(t, c), memoryIn("0")) || !checkCleanedRun(t, c, checkCleaned(t, c), memoryIn("1")) {
		t.Error("code halts with 0 or does not with 1")
	}
}

func TestCompactedCode(t *testing.T) {
	for _, row := range []struct {
		list, want string
		used       int
	}{
		// No register.
		{"halt", "", 0}, {"jump 0", "", 0}, {"fence; jump 2; halt", "", 0},
		// Numbers of values, variables, arrays, operators and instructions are none.
		{"const 3 12; get 3 2; put 2 3; load 3 1 3; store 1 3 3; bin 3 10 3 3; select 3 3 3 3; zero 3 9; loop 3 9; release 3; jump 11; halt", "const 0 12; get 0 2; put 2 0; load 0 1 0; store 1 0 0; bin 0 10 0 0; select 0 0 0 0; zero 0 9; loop 0 9; release 0; jump 11; halt", 1},
		{"const 0 5; get 0 1; put 1 0; bin 0 4 0 0; load 0 1 0; store 1 0 0; zero 0 3; halt", "", 1}, {"const 7 0; put 0 7; halt", "const 0 0; put 0 0; halt", 1}, {"jump 3; halt; halt; const 9 3; halt", "jump 3; halt; halt; const 0 3; halt", 1},
		// All of them, from the first to the last, from the last to the first, and mixed.
		{"const 0 0; const 1 1; const 2 2; const 3 3; const 4 4; const 5 5; const 6 6; const 7 7; const 8 8; const 9 9; const 10 10; const 11 11; const 12 12; const 13 13; halt", "", 14},
		{"const 13 0; const 12 1; const 11 2; const 10 3; const 9 4; const 8 5; const 7 6; const 6 7; const 5 8; const 4 9; const 3 10; const 2 11; const 1 12; const 0 13; halt", "const 0 0; const 1 1; const 2 2; const 3 3; const 4 4; const 5 5; const 6 6; const 7 7; const 8 8; const 9 9; const 10 10; const 11 11; const 12 12; const 13 13; halt", 14},
		{"select 13 2 11 4; select 9 6 7 8; select 5 10 3 12; store 0 1 0; put 0 13; halt", "select 0 1 2 3; select 4 5 6 7; select 8 9 10 11; store 0 12 13; put 0 0; halt", 14},
		// Gaps.
		{"const 2 5; put 0 2; const 9 6; put 0 9; halt", "const 0 5; put 0 0; const 1 6; put 0 1; halt", 2}, {"get 0 0; bin 0 4 0 13; halt", "get 0 0; bin 0 4 0 1; halt", 2}, {"get 0 0; get 2 0; get 4 0; bin 6 4 2 4; halt", "get 0 0; get 1 0; get 2 0; bin 3 4 1 2; halt", 4}, {"get 9 0; const 4 1; bin 9 4 4 9; put 0 9; halt", "get 0 0; const 1 1; bin 0 4 1 0; put 0 0; halt", 2},
		// The order of the fields, which is not that of reading and writing.
		{"bin 5 4 3 1; halt", "bin 0 4 1 2; halt", 3}, {"bin 5 4 3 5; halt", "bin 0 4 1 0; halt", 2}, {"bin 5 4 5 3; halt", "bin 0 4 0 1; halt", 2}, {"select 9 7 5 3; halt", "select 0 1 2 3; halt", 4}, {"select 3 9 3 2; halt", "select 0 1 0 2; halt", 3}, {"select 0 3 2 1; halt", "select 0 1 2 3; halt", 4}, {"load 5 0 2; halt", "load 0 0 1; halt", 2}, {"load 1 0 0; halt", "load 0 0 1; halt", 2}, {"store 1 7 2; halt", "store 1 0 1; halt", 2}, {"store 0 1 0; halt", "store 0 0 1; halt", 2}, {"store 1 4 2; bin 2 4 4 6; halt", "store 1 0 1; bin 1 4 0 2; halt", 3}, {"bin 1 4 0 2; select 2 1 0 3; halt", "bin 0 4 1 2; select 2 0 1 3; halt", 4},
		// The order of the instructions, also of those that are executed later or never.
		{"jump 2; put 0 9; put 0 4; halt", "jump 2; put 0 0; put 0 1; halt", 2}, {"jump 3; put 0 1; halt; put 0 0; jump 1", "jump 3; put 0 0; halt; put 0 1; jump 1", 2}, {"halt; const 9 1; halt", "halt; const 0 1; halt", 1}, {"const 1 5; const 0 6; halt", "const 0 5; const 1 6; halt", 2}, {"zero 8 2; const 3 5; loop 3 0; halt", "zero 0 2; const 1 5; loop 1 0; halt", 2}, {"loop 4 0; release 2; zero 4 1; halt", "loop 0 0; release 1; zero 0 1; halt", 2},
		// Compact already.
		{"get 0 1; const 1 1; bin 0 4 0 1; put 0 0; halt", "", 2}, {"select 0 1 2 3; select 1 2 3 0; halt", "", 4}, {"load 0 0 1; store 0 1 0; halt", "", 2}, {"bin 0 4 1 2; bin 3 4 0 1; put 0 3; halt", "", 4},
	} {
		if row.want == "" {
			row.want = row.list
		}
		c := codeIn(t, "LHU/HX", row.list)
		if used := impl.RegsUsed(c); used != row.used {
			t.Errorf("RegsUsed of %s = %d, want %d", row.list, used, row.used)
		}
		if got, ok := impl.CompactRegs(c); !ok || !reflect.DeepEqual(got, codeIn(t, "LHU/HX", row.want)) {
			t.Errorf("CompactRegs of %s = %q, %v, want %s", row.list, plainCodeText(got), ok, row.want)
		}
		numbers := source(len(row.list))
		results := checkCleaned(t, c)
		checkStaysChecked(t, c, results)
		checkCleanedRuns(t, c, results, &numbers, 10)
	}
}

func TestSingleRegisters(t *testing.T) {
	for op := impl.OpConst; op <= impl.OpHalt; op++ {
		fields := opTable[op].fields
		for r := range 14 {
			in, want := leastInstr(op), leastInstr(op)
			for i := range 4 {
				if fields[i] == 'r' {
					*fieldOf(&in, i) = r
				}
			}
			used := min(strings.Count(fields, "r"), 1)
			for _, at := range []int{0, 1, 398} {
				c := withInstr("L/L", 400, at, in)
				if got := impl.RegsUsed(c); got != used {
					t.Errorf("RegsUsed of %s with register %d at %d = %d", opTable[op].name, r, at, got)
				}
				if got, ok := impl.CompactRegs(c); !ok || !impl.CodeSame(got, withInstr("L/L", 400, at, want)) {
					t.Errorf("CompactRegs of %s with register %d at %d = %q, %v", opTable[op].name, r, at, plainCodeText(got), ok)
				}
			}
			// As one field only, where the others have register 0.
			for i := range 4 {
				if fields[i] != 'r' {
					continue
				}
				in := leastInstr(op)
				*fieldOf(&in, i) = r
				checkCleaned(t, withInstr("L/L", 3, 1, in))
				if got, want := impl.RegsUsed(withInstr("L/L", 3, 1, in)), min(strings.Count(fields, "r"), 2); r > 0 && got != want {
					t.Errorf("RegsUsed of %s with register %d as field %d = %d, want %d", opTable[op].name, r, i, got, want)
				}
			}
		}
	}
}

func TestInvalidCodeIsNotCleaned(t *testing.T) {
	codes := invalidCodes()
	for op := impl.OpConst; op <= impl.OpHalt; op++ {
		for i := range 4 {
			for what, n := range map[string]int{"-1": -1, "1<<32": 1 << 32, "the least number": math.MinInt} {
				c := withInstr("LH/LH", 5, 2, leastInstr(op))
				*fieldOf(&c.List[2], i) = n
				codes[opTable[op].name+" with "+what+" as field "+strconv.Itoa(i)] = c
				// What is not reached must be valid, too.
				c = clonedCode(c)
				c.List[0] = instr(impl.OpHalt)
				codes[opTable[op].name+" that is not reached, with "+what+" as field "+strconv.Itoa(i)] = c
			}
		}
	}
	codes["label 4"] = impl.Code{Vars: []int{4}, List: []impl.Instr{instr(impl.OpHalt)}}
	codes["label -1 of an array"] = impl.Code{Vars: []int{0}, Arrays: []int{-1}, List: []impl.Instr{instr(impl.OpConst, 0, 1), instr(impl.OpHalt)}}
	codes["a dead instruction at the end"] = codeOf("L/", instr(impl.OpHalt), instr(impl.OpConst, 0, 1))
	codes["register 14 in a dead instruction"] = codeOf("L/", instr(impl.OpConst, 14, 1), instr(impl.OpHalt))
	codes["register 16 in a dead instruction"] = codeOf("L/", instr(impl.OpBin, 0, 4, 0, 16), instr(impl.OpHalt))
	codes["401 instructions with dead ones"] = withInstr("L/", 401, 0, instr(impl.OpConst, 0, 1))
	codes["very many"] = withInstr("L/", veryDeep, 0, instr(impl.OpGet, 0, 0))
	for what, c := range codes {
		if live := impl.LiveRegs(c); len(live) != 0 {
			t.Errorf("%s: LiveRegs = %s", what, taintText(live))
		}
		if used := impl.RegsUsed(c); used != 0 {
			t.Errorf("%s: RegsUsed = %d", what, used)
		}
		for _, cleaner := range cleaners {
			if got, ok := cleaner.apply(c); ok || !isZeroCode(got) {
				t.Errorf("%s: %s = %v, %v", what, cleaner.name, got, ok)
			}
		}
		empty := make([][]bool, len(c.List))
		none, all := slices.Clone(empty), slices.Clone(empty)
		for at := range c.List {
			none[at], all[at] = make([]bool, 14), slices.Repeat([]bool{true}, 14)
		}
		for _, live := range [][][]bool{nil, {}, empty, none, all, {nil}, {make([]bool, 14)}} {
			if impl.CheckLive(c, live) {
				t.Errorf("%s: CheckLive accepts a map with %d rows", what, len(live))
			}
		}
		for _, m := range []impl.Memory{zeroMemory(c), memoryIn("0"), {}} {
			if regs, ok := impl.FinalRegs(c, m); ok || len(regs) != 0 {
				t.Errorf("%s: FinalRegs with %d variables = %v, %v", what, len(m.Vals), regs, ok)
			}
		}
	}
}

func TestMemoriesWithoutFinalRegs(t *testing.T) {
	for text, list := range invalidMemories() {
		p := parsed(t, text)
		c := impl.Code{Vars: p.Vars, Arrays: p.Arrays, List: []impl.Instr{instr(impl.OpConst, 3, 7), instr(impl.OpHalt)}}
		for _, memory := range list {
			if regs, ok := impl.FinalRegs(c, memoryIn(memory)); ok || len(regs) != 0 {
				t.Errorf("FinalRegs for %s and %s = %v, %v", text, memory, regs, ok)
			}
		}
		if regs, ok := impl.FinalRegs(c, zeroMemory(c)); !ok || !slices.Equal(regs, regsIn("3=7")) {
			t.Errorf("FinalRegs for %s = %v, %v", text, regs, ok)
		}
	}
	c := codeIn(t, "LHU/HX", "const 3 7; halt")
	for _, n := range []int{-1, 256, 1 << 32, math.MaxInt, math.MinInt} {
		m := memoryIn("10 20 30/40 41 42 43/50 51 52 53")
		for _, numbers := range append([][]int{m.Vals}, m.Arrays...) {
			for i, old := range numbers {
				numbers[i] = n
				if regs, ok := impl.FinalRegs(c, m); ok || len(regs) != 0 {
					t.Errorf("FinalRegs with the value %d = %v, %v", n, regs, ok)
				}
				numbers[i] = old
			}
		}
	}
}

// manyDead returns valid code of which more instructions may be dead.
func (s *source) manyDead(size int) impl.Code {
	c := s.manyJumps(size)
	for at := range len(c.List) - 1 {
		if s.below(2) == 0 {
			c.List[at] = s.someInstr(c, at, []int{impl.OpConst, impl.OpGet, impl.OpBin, impl.OpSelect}[s.below(4)])
		}
	}
	return c
}

func TestManyCleanedCodes(t *testing.T) {
	numbers := source(123)
	seen := map[string]int{}
	for i := range 5000 {
		c := numbers.someVerified(i)
		if i%3 == 0 {
			c = numbers.manyDead([]int{30, 30, 30, 30, 30, 30, 30, 400}[numbers.below(8)])
		}
		results := checkCleaned(t, c)
		for k, result := range results {
			if !impl.CodeSame(result, c) {
				seen[cleaners[k].name]++
			}
		}
		if isZeroCode(results[1]) {
			seen["too long"]++
		}
		if _, _, rounds := plainlyUseful(c); rounds > 1 {
			seen["several rounds"]++
		}
		if checkStaysChecked(t, c, results) == impl.FlowFine {
			seen["fine"]++
		}
		seen["halted"] += checkCleanedRuns(t, c, results, &numbers, 4)
		// One after the other, they do the same.
		useful, _ := impl.RemoveDead(c)
		compact, _ := impl.CompactRegs(useful)
		if erased, ok := impl.EraseCode(compact); ok {
			checkStaysChecked(t, erased, checkCleaned(t, erased))
			m := numbers.someMemory(impl.Program{Vars: c.Vars, Arrays: c.Arrays})
			if _, halts := plainEventsOf(c, m, 500); !halts {
				continue
			}
			want, trace, _ := impl.RunCode(c, m)
			if out, events, ok := impl.RunCode(erased, m); !ok || memoryText(out) != memoryText(want) || !slices.Equal(plainlyProjected(events), plainlyProjected(trace)) {
				t.Errorf("%q makes %s of %s, and %q makes %s, %v", plainCodeText(c), memoryText(want), memoryText(m), plainCodeText(erased), memoryText(out), ok)
			}
			seen["erased"]++
		}
	}
	for what, least := range map[string]int{"RemoveDead": 3000, "EraseCode": 3500, "CompactRegs": 3500, "too long": 4, "several rounds": 800, "fine": 2500, "halted": 8000, "erased": 2500} {
		if seen[what] < least {
			t.Errorf("%s was seen only %d times", what, seen[what])
		}
	}
}

func TestCleanedCompiledPrograms(t *testing.T) {
	for text, rows := range map[string][2]string{
		"L//": {"halt", "halt"}, "L//a:=(a+1);": {"get 0 0; const 1 1; bin 0 4 0 1; put 0 0; halt", "get 0 0; const 1 1; bin 0 4 0 1; put 0 0; halt"}, "L//ifa{}{}": {"get 0 0; zero 0 3; jump 3; halt", "get 0 0; zero 0 3; jump 3; halt"},
		"L//repeat3{}": {"const 9 3; loop 9 1; halt", "const 0 3; loop 0 1; halt"}, "L//repeat2{a:=1;}": {"const 9 2; const 0 1; put 0 0; loop 9 1; halt", "const 0 2; const 1 1; put 0 1; loop 0 1; halt"}, "L//repeat2{repeat3{a:=(1+a);}}": {"const 9 2; const 10 3; const 0 1; get 1 0; bin 0 4 0 1; put 0 0; loop 10 2; loop 9 1; halt", "const 0 2; const 1 3; const 2 1; get 3 0; bin 2 4 2 3; put 0 2; loop 1 2; loop 0 1; halt"},
	} {
		c, _ := impl.CompileProgram(parsed(t, text))
		for i, apply := range []func(c impl.Code) (impl.Code, bool){impl.RemoveDead, impl.CompactRegs} {
			if got, ok := apply(c); !ok || !reflect.DeepEqual(got.List, codeIn(t, "L/", rows[i]).List) {
				t.Errorf("the code of %s becomes %q, %v, want %s", text, plainCodeText(got), ok, rows[i])
			}
		}
		checkCleaned(t, c)
	}
	numbers := source(124)
	halted, secure := 0, 0
	for i := range 2500 {
		p := numbers.deepProgram(6)
		c, ok := impl.CompileProgram(p)
		if i%2 == 0 {
			p = numbers.someSecretProgram(6)
			c, ok = impl.CompileSecure(p)
		}
		if !ok {
			continue
		}
		results := checkCleaned(t, c)
		if !impl.CodeSame(results[0], c) {
			t.Errorf("the code of %q, %q, has dead instructions", impl.FormatProgram(p), plainCodeText(c))
		}
		halted += checkCleanedRuns(t, c, results, &numbers, 3)
		if result := checkStaysChecked(t, c, results); i%2 > 0 {
			continue
		} else if result != impl.FlowFine {
			t.Errorf("CheckCode of the secure code of %q = %d", impl.FormatProgram(p), result)
		}
		secure++
		for _, result := range results {
			if !isZeroCode(result) {
				checkSecureRun(t, p, result, &numbers)
			}
		}
	}
	if halted < 4000 || secure < 400 {
		t.Errorf("%d runs halted and %d secure codes were tried", halted, secure)
	}
}

// cleanCode has dead instructions, targets that are removed, loops, several halts and gaps between its registers.
const cleanCode = "const 9 2; get 5 0; bin 3 4 5 5; zero 5 7; load 11 0 5; store 0 9 11; loop 9 2; select 2 3 3 3; release 11; zero 9 11; halt; put 1 9; halt; jump 10"

func TestCleanersKeepArguments(t *testing.T) {
	for _, list := range []string{cleanCode, machineCode, speculateCode, "halt", "jump 0", "const 0 1; halt"} {
		c := spareCode(codeIn(t, "LHU/HX", list))
		kept := clonedCode(c)
		m := spareMemory(memoryIn("10 20 30/40 41 42 43/50 51 52 53"))
		live := plainLive(c)
		for at := range live {
			live[at] = append(slices.Clip(live[at]), true, false)[:14]
		}
		live = append(slices.Clip(live), []bool{true})[:len(live)]
		keptLive, keptMemory := taintText(live), memoryText(m)
		for _, cleaner := range cleaners {
			cleaner.apply(c)
		}
		impl.LiveRegs(c)
		impl.CheckLive(c, live)
		impl.RegsUsed(c)
		impl.FinalRegs(c, m)
		if !reflect.DeepEqual(c, kept) || !isSpareCodeKept(c) {
			t.Errorf("a function changed its argument %s to %q, or what is beyond it", list, plainCodeText(c))
		}
		if taintText(live) != keptLive || !slices.Equal(live[:len(live)+1][len(live)], []bool{true}) || slices.ContainsFunc(live, func(row []bool) bool { return !slices.Equal(row[14:16], []bool{true, false}) }) {
			t.Errorf("a function changed its argument %s to %s, or what is beyond it", keptLive, taintText(live))
		}
		if memoryText(m) != keptMemory || !isSpareKept(m) {
			t.Errorf("FinalRegs of %s changed its argument to %s, or what is beyond it", list, memoryText(m))
		}
	}
}

func TestCleanedResultsShareNoMemory(t *testing.T) {
	for _, list := range []string{cleanCode, everyOperation, "halt", "jump 0", "const 0 1; halt", "zero 0 2; const 1 1; halt"} {
		for _, cleaner := range cleaners {
			checkOwnCode(t, cleaner.name, cleaner.apply, list)
		}
		c := codeIn(t, "LH/L", list)
		first, second := impl.LiveRegs(c), impl.LiveRegs(c)
		used := map[*bool]bool{}
		if !flagsUsed(used, first) || !flagsUsed(used, second) {
			t.Errorf("a result of LiveRegs of %s shares memory with another result or with itself", list)
		}
		want := taintText(second)
		for _, row := range first {
			row = row[:cap(row)]
			for i := range row {
				row[i] = !row[i]
			}
		}
		checkAlone(t, "LiveRegs", func() [][]bool { return impl.LiveRegs(c) }, taintText, []bool{true})
		if third := impl.LiveRegs(c); taintText(second) != want || taintText(third) != want {
			t.Errorf("a result of LiveRegs of %s shares memory, or LiveRegs keeps state", list)
		}
	}
	for _, list := range []string{cleanCode, machineCode, "halt", "get 0 0; halt"} {
		c, m := codeIn(t, "LHU/HX", list), memoryIn("10 20 30/40 41 42 43/50 51 52 53")
		checkOwnMemory(t, "FinalRegs", append(slices.Clone(m.Arrays), m.Vals, c.Vars, c.Arrays), func() (impl.Machine, []impl.Event) {
			regs, ok := impl.FinalRegs(c, m)
			if !ok {
				t.Errorf("FinalRegs of %s is false", list)
			}
			return impl.Machine{Regs: regs}, nil
		})
	}
}

func TestFinalRegsWithOneSlice(t *testing.T) {
	shared := slices.Repeat([]int{1, 2, 3, 4, 5, 6, 7}, 2)
	m := impl.Memory{Vals: shared[:4], Arrays: [][]int{shared[:4], shared[2:6]}}
	c := codeIn(t, "LLLL/LL", "const 0 200; put 0 0; store 0 1 0; load 2 1 1; get 3 0; get 4 3; load 5 0 1; halt")
	if regs, ok := impl.FinalRegs(c, m); !ok || !slices.Equal(regs, regsIn("0=200 2=3 3=200 4=4 5=200")) || numbersText(shared) != "1 2 3 4 5 6 7 1 2 3 4 5 6 7" {
		t.Errorf("FinalRegs = %v, %v, and the argument is %v", regs, ok, shared)
	}
}

func TestCleanersAtTheSameTime(t *testing.T) {
	c, m := codeIn(t, "LHU/HX", cleanCode), memoryIn("10 20 30/40 41 42 43/50 51 52 53")
	results, live := checkCleaned(t, c), impl.LiveRegs(c)
	if !checkCleanedRun(t, c, results, m) {
		t.Error("the code does not halt")
	}
	regs, _ := impl.FinalRegs(c, m)
	want := taintText(live) + " " + numbersText(regs)
	var group sync.WaitGroup
	for range 8 {
		group.Go(func() {
			for range 100 {
				for i, cleaner := range cleaners {
					if got, ok := cleaner.apply(c); !ok || !slices.Equal(got.List, results[i].List) {
						t.Errorf("%s = %q, %v", cleaner.name, plainCodeText(got), ok)
					}
				}
				regs, ok := impl.FinalRegs(c, m)
				if got := taintText(impl.LiveRegs(c)) + " " + numbersText(regs); !ok || got != want || !impl.CheckLive(c, live) || impl.RegsUsed(c) != 5 {
					t.Errorf("LiveRegs and FinalRegs = %s, %v, want %s", got, ok, want)
				}
			}
		})
	}
	group.Wait()
}
