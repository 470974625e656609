package tests

import (
	"math"
	"reflect"
	"slices"
	"strconv"
	"strings"
	"sync"
	"testing"

	"loop.example/constanttime/impl"
)

// eventsText is the opposite of eventsIn.
func eventsText(list []impl.Event) string {
	var words []string
	for _, event := range list {
		words = append(words, eventLetters[event.Kind:event.Kind+1]+strconv.Itoa(event.Value))
	}
	return strings.Join(words, " ")
}

// wrongIn returns predictions from their marks: 1 for a wrong one.
func wrongIn(text string) []bool {
	wrong := make([]bool, len(text))
	for i := range text {
		wrong[i] = text[i] == '1'
	}
	return wrong
}

// isPlainBranch reports whether an instruction is a branch.
func isPlainBranch(in impl.Instr) bool {
	name := opTable[in.Op].name
	return name == "zero" || name == "loop"
}

// plainPath returns the events of a speculative execution that starts with a valid state.
func plainPath(c impl.Code, s impl.Machine) []impl.Event {
	s = clonedMachine(s)
	var events []impl.Event
	for range 4 {
		name := opTable[c.List[s.Pc].Op].name
		events = append(events, plainStep(c, &s)...)
		if name == "fence" || name == "halt" {
			break
		}
	}
	return events
}

// plainSpecRun executes valid code in m itself. It returns the events and how many branches are executed, and whether the code halts within that many steps.
func plainSpecRun(c impl.Code, m impl.Memory, wrong []bool, steps int) ([]impl.Event, int, bool) {
	s := impl.Machine{Regs: make([]int, 14), Mem: m}
	var trace []impl.Event
	branches := 0
	for range steps {
		at := s.Pc
		trace = append(trace, plainStep(c, &s)...)
		if opTable[c.List[at].Op].name == "halt" {
			return trace, branches, true
		}
		if !isPlainBranch(c.List[at]) {
			continue
		}
		if branches < len(wrong) && wrong[branches] {
			// The branch leads to one of two instructions, and this is the other one.
			other := clonedMachine(s)
			other.Pc = at + 1 + plainTarget(c.List[at]) - s.Pc
			trace = append(trace, plainPath(c, other)...)
		}
		branches++
	}
	return nil, branches, false
}

// checkSpecRun checks SpecRun and CountBranches for valid code and a memory of it. It returns the events, and whether the code halts.
func checkSpecRun(t *testing.T, c impl.Code, m impl.Memory, wrong []bool) ([]impl.Event, bool) {
	t.Helper()
	want := clonedMemory(m)
	trace, branches, halts := plainSpecRun(c, want, wrong, 20000)
	if !halts {
		want, branches = impl.Memory{}, 0
	}
	out, events, ok := impl.SpecRun(c, m, wrong)
	if ok != halts || memoryText(out) != memoryText(want) || !slices.Equal(events, trace) {
		t.Errorf("SpecRun of %q with %s and %.100s = %s, %.1000s, %v, want %s, %.1000s, %v", plainCodeText(c), memoryText(m), marks(wrong), memoryText(out), eventsText(events), ok, memoryText(want), eventsText(trace), halts)
	}
	plain, _, ran := impl.RunCode(c, m)
	if ran != ok || memoryText(plain) != memoryText(out) {
		t.Errorf("%q makes %s, %v of %s, but %s, %v with the predictions %.100s", plainCodeText(c), memoryText(plain), ran, memoryText(m), memoryText(out), ok, marks(wrong))
	}
	if count, counted := impl.CountBranches(c, m); count != branches || counted != halts {
		t.Errorf("CountBranches of %q with %s = %d, %v, want %d, %v", plainCodeText(c), memoryText(m), count, counted, branches, halts)
	}
	return events, ok
}

// checkNotSpeculated checks that code does not run with a memory.
func checkNotSpeculated(t *testing.T, what string, c impl.Code, m impl.Memory) {
	t.Helper()
	for _, wrong := range [][]bool{nil, {}, {false}, {true}, {true, false, true}} {
		if out, events, ok := impl.SpecRun(c, m, wrong); ok || !isZeroMemory(out) || len(events) != 0 {
			t.Errorf("%s: SpecRun with %s = %s, %d events, %v", what, marks(wrong), memoryText(out), len(events), ok)
		}
	}
	if count, ok := impl.CountBranches(c, m); ok || count != 0 {
		t.Errorf("%s: CountBranches = %d, %v", what, count, ok)
	}
}

// checkNoPath checks that there is no speculative execution from a state.
func checkNoPath(t *testing.T, what string, c impl.Code, s impl.Machine) {
	t.Helper()
	if events, ok := impl.SpecPath(c, s); ok || len(events) != 0 {
		t.Errorf("%s: SpecPath = %s, %v", what, plainTrace(events), ok)
	}
}

// checkPath checks SpecPath for a valid state, and returns the text of the events.
func checkPath(t *testing.T, c impl.Code, s impl.Machine) string {
	t.Helper()
	kept := machineText(s)
	events, ok := impl.SpecPath(c, s)
	if want := plainPath(c, s); !ok || !slices.Equal(events, want) {
		t.Errorf("SpecPath of %q at %s = %s, %v, want %s", plainCodeText(c), kept, eventsText(events), ok, eventsText(want))
	}
	if machineText(s) != kept {
		t.Errorf("SpecPath changed %s to %s", kept, machineText(s))
	}
	return eventsText(events)
}

func TestWindow(t *testing.T) {
	if impl.Window != 4 {
		t.Errorf("Window = %d", impl.Window)
	}
}

func TestPathsFromEveryKindOfInstruction(t *testing.T) {
	// The instruction has the number 2. Registers are 100 plus their number unless the row says otherwise.
	for _, row := range []struct{ line, regs, events string }{
		{"const 3 7", "", "s2 s3 s4 s5"}, {"get 0 2", "", "s2 s3 s4 s5"}, {"put 2 0", "", "s2 s3 s4 s5"}, {"bin 3 4 1 2", "", "s2 s3 s4 s5"}, {"select 3 4 5 6", "4=0", "s2 s3 s4 s5"},
		{"load 3 0 4", "4=6", "s2 r2 s3 s4 s5"}, {"load 3 1 4", "4=255", "s2 r7 s3 s4 s5"}, {"store 0 1 2", "1=3", "s2 w3 s3 s4 s5"}, {"store 1 1 2", "1=4", "s2 w4 s3 s4 s5"}, {"release 13", "", "s2 o113 s3 s4 s5"}, {"release 5", "5=0", "s2 o0 s3 s4 s5"},
		{"jump 0", "", "s2 s0 s1 s2"}, {"jump 2", "", "s2 s2 s2 s2"}, {"jump 3", "", "s2 s3 s4 s5"}, {"jump 6", "", "s2 s6"},
		{"zero 4 0", "4=0", "s2 s0 s1 s2"}, {"zero 4 0", "4=1", "s2 s3 s4 s5"}, {"zero 4 2", "4=0", "s2 s2 s2 s2"}, {"zero 4 2", "4=9", "s2 s3 s4 s5"}, {"zero 4 3", "4=0", "s2 s3 s4 s5"}, {"zero 4 6", "4=0", "s2 s6"}, {"zero 4 6", "4=255", "s2 s3 s4 s5"},
		{"loop 4 0", "4=2", "s2 s0 s1 s2"}, {"loop 4 0", "4=1", "s2 s3 s4 s5"}, {"loop 4 2", "4=3", "s2 s2 s2 s3"}, {"loop 4 2", "4=0", "s2 s2 s2 s2"}, {"loop 4 2", "4=4", "s2 s2 s2 s2"}, {"loop 4 2", "4=1", "s2 s3 s4 s5"}, {"loop 4 6", "4=0", "s2 s6"}, {"loop 4 6", "4=1", "s2 s3 s4 s5"},
		{"fence", "", "s2"}, {"fence", "0=0 1=1", "s2"}, {"halt", "", "s2"}, {"halt", "0=0 1=1", "s2"},
	} {
		c := codeIn(t, "LHU/HX", "const 13 1; const 13 2; "+row.line+"; const 13 3; const 13 4; const 13 5; halt")
		if got := checkPath(t, c, machineIn(2, row.regs)); got != row.events {
			t.Errorf("SpecPath at %s with %q = %s, want %s", row.line, row.regs, got, row.events)
		}
	}
}

// pathRow is a path from instruction 0 of code with LHU/HX, where register i is 100+i unless the row says otherwise.
type pathRow struct{ list, regs, events string }

func checkPathRow(t *testing.T, row pathRow) {
	t.Helper()
	if got := checkPath(t, codeIn(t, "LHU/HX", row.list), machineIn(0, row.regs)); got != row.events {
		t.Errorf("SpecPath of %s with %q = %s, want %s", row.list, row.regs, got, row.events)
	}
}

func TestEndsOfPaths(t *testing.T) {
	for _, row := range []pathRow{
		// A fence or a halt as the first instruction of the window, in its middle, as its last one and behind it.
		{"fence; const 0 1; halt", "", "s0"}, {"const 0 1; fence; const 0 1; halt", "", "s0 s1"}, {"const 0 1; const 0 2; fence; const 0 1; halt", "", "s0 s1 s2"}, {"const 0 1; const 0 2; const 0 3; fence; const 0 1; halt", "", "s0 s1 s2 s3"}, {"const 0 1; const 0 2; const 0 3; const 0 4; fence; halt", "", "s0 s1 s2 s3"},
		{"halt", "", "s0"}, {"halt; const 0 1; halt", "", "s0"}, {"const 0 1; halt", "", "s0 s1"}, {"const 0 1; const 0 2; halt", "", "s0 s1 s2"}, {"const 0 1; const 0 2; const 0 3; halt", "", "s0 s1 s2 s3"}, {"const 0 1; const 0 2; const 0 3; const 0 4; halt", "", "s0 s1 s2 s3"},
		// The first of both counts, and a halt does not repeat.
		{"fence; fence; halt", "", "s0"}, {"fence; halt", "", "s0"}, {"halt; fence; halt", "", "s0"}, {"const 0 1; fence; fence; halt", "", "s0 s1"}, {"jump 1; halt; halt", "", "s0 s1"},
		// A fence that is not on the path, and one that is only reached by a jump.
		{"jump 2; fence; const 0 1; const 0 2; const 0 3; halt", "", "s0 s2 s3 s4"}, {"jump 3; const 0 1; halt; fence; halt", "", "s0 s3"}, {"jump 2; halt; jump 1", "", "s0 s2 s1"}, {"jump 3; halt; fence; jump 5; halt; jump 2", "", "s0 s3 s5 s2"}, {"jump 2; fence; jump 3; jump 4; jump 1", "", "s0 s2 s3 s4"},
		// Neither: jumps, and instructions with several events, which count once.
		{"jump 0", "", "s0 s0 s0 s0"}, {"jump 1; jump 0", "", "s0 s1 s0 s1"}, {"const 0 1; jump 0", "", "s0 s1 s0 s1"},
		{"load 0 0 1; store 1 2 3; release 4; load 5 1 6; halt", "1=0 2=1 6=2", "s0 r0 s1 w5 s2 o104 s3 r6"}, {"load 0 0 1; load 0 0 1; load 0 0 1; fence; halt", "1=3", "s0 r3 s1 r3 s2 r3 s3"}, {"release 0; release 1; release 2; release 3; release 4; halt", "", "s0 o100 s1 o101 s2 o102 s3 o103"},
	} {
		checkPathRow(t, row)
	}
}

func TestPathsWithBranches(t *testing.T) {
	for _, row := range []pathRow{
		// A branch leads where it leads: there is no wrong prediction within the path.
		{"zero 0 2; halt; const 1 1; halt", "0=0", "s0 s2 s3"}, {"zero 0 2; halt; const 1 1; halt", "0=1", "s0 s1"}, {"loop 0 2; halt; const 1 1; halt", "0=2", "s0 s2 s3"}, {"loop 0 2; halt; const 1 1; halt", "0=1", "s0 s1"},
		{"const 0 0; zero 0 3; halt; const 1 1; halt", "", "s0 s1 s3 s4"}, {"const 0 1; zero 0 3; halt; const 1 1; halt", "", "s0 s1 s2"}, {"const 0 0; loop 0 3; halt; const 1 1; halt", "", "s0 s1 s3 s4"}, {"const 0 1; loop 0 3; halt; const 1 1; halt", "", "s0 s1 s2"},
		{"const 1 1; const 1 2; zero 0 4; fence; halt", "0=0", "s0 s1 s2 s4"}, {"const 1 1; const 1 2; zero 0 4; fence; halt", "0=7", "s0 s1 s2 s3"}, {"const 1 1; const 1 2; const 1 3; zero 0 0; halt", "0=0", "s0 s1 s2 s3"}, {"const 1 1; const 1 2; const 1 3; loop 0 0; halt", "0=1", "s0 s1 s2 s3"},
		// Two branches, of which one is taken.
		{"zero 0 2; halt; zero 1 4; halt; const 2 2; halt", "0=0 1=0", "s0 s2 s4 s5"}, {"zero 0 2; halt; zero 1 4; halt; const 2 2; halt", "0=0", "s0 s2 s3"}, {"zero 0 2; zero 1 3; halt; fence; halt", "1=0", "s0 s1 s3"}, {"zero 0 2; zero 1 3; halt; fence; halt", "", "s0 s1 s2"},
		// Rounds of a loop.
		{"const 0 2; loop 0 1; release 0; halt", "", "s0 s1 s1 s2 o0"}, {"const 0 3; loop 0 1; release 0; halt", "", "s0 s1 s1 s1"}, {"release 0; loop 0 0; halt", "0=2", "s0 o2 s1 s0 o1 s1"}, {"fence; loop 0 0; halt", "0=2", "s0"}, {"loop 0 0; release 0; halt", "0=2", "s0 s0 s1 o0 s2"},
		// To the next instruction.
		{"zero 0 1; const 1 1; halt", "0=0", "s0 s1 s2"}, {"zero 0 1; const 1 1; halt", "", "s0 s1 s2"}, {"loop 0 1; const 1 1; halt", "0=1", "s0 s1 s2"}, {"loop 0 1; const 1 1; halt", "", "s0 s1 s2"},
	} {
		checkPathRow(t, row)
	}
}

func TestPathsUseTheirOwnState(t *testing.T) {
	for _, row := range []pathRow{
		// Memory is 10 20 30/40 41 42 43/50 51 52 53 at first.
		{"store 0 1 2; load 3 0 1; release 3; halt", "1=1 2=77", "s0 w1 s1 r1 s2 o77 s3"}, {"put 0 1; get 2 0; release 2; halt", "1=88", "s0 s1 s2 o88 s3"}, {"get 0 2; load 1 1 0; release 1; halt", "", "s0 s1 r6 s2 o52 s3"}, {"load 0 0 1; load 2 1 0; store 0 2 2; halt", "1=2", "s0 r2 s1 r6 s2 w0 s3"},
		{"bin 0 4 1 2; load 3 1 0; halt", "1=1 2=2", "s0 s1 r7 s2"}, {"select 0 1 2 3; load 3 1 0; halt", "1=0 2=5 3=6", "s0 s1 r6 s2"}, {"select 0 1 2 3; load 3 1 0; halt", "1=1 2=5 3=6", "s0 s1 r5 s2"}, {"const 0 9; store 1 0 0; load 1 1 0; release 1; halt", "", "s0 s1 w5 s2 r5 s3 o9"},
	} {
		checkPathRow(t, row)
		// The state itself is as before, and so is the next path.
		checkPathRow(t, row)
	}
}

func TestManyPaths(t *testing.T) {
	numbers := source(110)
	lengths := map[int]int{}
	for i := range 30000 {
		c := numbers.someCode(12)
		if i%2 == 0 {
			c = numbers.manyJumps(12)
		}
		s := numbers.someMachine(c)
		text := checkPath(t, c, s)
		// It is stepping through the code.
		var events []impl.Event
		steps := 0
		for x, ended := clonedMachine(s), false; !ended && steps < 4; steps++ {
			ended = c.List[x.Pc].Op == impl.OpFence || c.List[x.Pc].Op == impl.OpHalt
			after, more, _ := impl.StepMachine(c, x)
			x, events = after, append(events, more...)
		}
		if eventsText(events) != text {
			t.Errorf("stepping through %q from %s has the events %s, and SpecPath %s", plainCodeText(c), machineText(s), eventsText(events), text)
		}
		lengths[strings.Count(text, "s")]++
	}
	for length := 1; length <= 4; length++ {
		if lengths[length] < 1000 {
			t.Errorf("only %d paths have %d instructions", lengths[length], length)
		}
	}
}

func TestNoPaths(t *testing.T) {
	c := codeIn(t, "LHU/HX", "const 0 1; load 1 0 2; halt; jump 0")
	for what, s := range brokenMachines() {
		checkNoPath(t, what, c, s)
	}
	for what, c := range invalidCodes() {
		checkNoPath(t, what, c, zeroMachine(c))
		checkNoPath(t, what, c, machineIn(0, ""))
		checkNoPath(t, what, c, impl.Machine{})
	}
	for text, list := range invalidMemories() {
		p := parsed(t, text)
		c := impl.Code{Vars: p.Vars, Arrays: p.Arrays, List: []impl.Instr{instr(impl.OpHalt)}}
		for _, memory := range list {
			checkNoPath(t, text+" "+memory, c, impl.Machine{Regs: make([]int, 14), Mem: memoryIn(memory)})
		}
		checkPath(t, c, zeroMachine(c))
	}
	// What is not valid need not be on the path.
	for pc := range 3 {
		checkNoPath(t, "a value 256 in the code", codeOf("LHU/HX", instr(impl.OpFence), instr(impl.OpConst, 0, 256), instr(impl.OpHalt)), machineIn(pc, ""))
	}
	s := machineIn(2, "")
	s.Regs[13] = 256
	checkNoPath(t, "a register that is not read", c, s)
}

// specRow is a run with predictions, where the trace has an s for each step.
type specRow struct {
	declared, list, before, wrong string
	after, trace                  string
	branches                      int
}

func checkSpecRow(t *testing.T, row specRow) {
	t.Helper()
	c, m := codeIn(t, row.declared, row.list), memoryIn(row.before)
	out, events, ok := impl.SpecRun(c, m, wrongIn(row.wrong))
	if !ok || memoryText(out) != row.after || eventsText(events) != row.trace {
		t.Errorf("SpecRun of %s with %s and %s = %s, %s, %v, want %s, %s", row.list, row.before, row.wrong, memoryText(out), eventsText(events), ok, row.after, row.trace)
	}
	if count, ok := impl.CountBranches(c, m); !ok || count != row.branches {
		t.Errorf("CountBranches of %s with %s = %d, %v, want %d", row.list, row.before, count, ok, row.branches)
	}
	checkSpecRun(t, c, m, wrongIn(row.wrong))
}

// leakyCode is the document's example.
const leakyCode = "get 0 0; zero 0 4; get 1 1; load 2 0 1; halt"

func TestWrongPredictionOfEachBranch(t *testing.T) {
	const three = "get 0 0; zero 0 3; const 1 1; zero 0 5; const 1 2; zero 0 7; const 1 3; halt"
	for _, row := range []specRow{
		{"LH/L", leakyCode, "0 6/1 2 3 4", "", "0 6/1 2 3 4", "s0 s1 s4", 1}, {"LH/L", leakyCode, "0 6/1 2 3 4", "1", "0 6/1 2 3 4", "s0 s1 s2 s3 r2 s4 s4", 1}, {"LH/L", leakyCode, "5 6/1 2 3 4", "1", "5 6/1 2 3 4", "s0 s1 s4 s2 s3 r2 s4", 1}, {"LH/L", leakyCode, "5 6/1 2 3 4", "0", "5 6/1 2 3 4", "s0 s1 s2 s3 r2 s4", 1},
		// The first, the middle and the last one of three, which are taken.
		{"L/", three, "0", "000", "0", "s0 s1 s3 s5 s7", 3}, {"L/", three, "0", "1", "0", "s0 s1 s2 s3 s5 s7 s3 s5 s7", 3}, {"L/", three, "0", "01", "0", "s0 s1 s3 s4 s5 s7 s5 s7", 3}, {"L/", three, "0", "001", "0", "s0 s1 s3 s5 s6 s7 s7", 3},
		{"L/", three, "0", "101", "0", "s0 s1 s2 s3 s5 s7 s3 s5 s6 s7 s7", 3}, {"L/", three, "0", "111", "0", "s0 s1 s2 s3 s5 s7 s3 s4 s5 s7 s5 s6 s7 s7", 3},
		// And where they are not.
		{"L/", three, "9", "000", "9", "s0 s1 s2 s3 s4 s5 s6 s7", 3}, {"L/", three, "9", "1", "9", "s0 s1 s3 s4 s5 s6 s2 s3 s4 s5 s6 s7", 3}, {"L/", three, "9", "01", "9", "s0 s1 s2 s3 s5 s6 s7 s4 s5 s6 s7", 3}, {"L/", three, "9", "001", "9", "s0 s1 s2 s3 s4 s5 s7 s6 s7", 3},
		{"L/", three, "9", "110", "9", "s0 s1 s3 s4 s5 s6 s2 s3 s5 s6 s7 s4 s5 s6 s7", 3},
		// More and fewer predictions than branches, and ones that are not wrong.
		{"L/", three, "0", "", "0", "s0 s1 s3 s5 s7", 3}, {"L/", three, "0", "0", "0", "s0 s1 s3 s5 s7", 3}, {"L/", three, "0", "0001", "0", "s0 s1 s3 s5 s7", 3}, {"L/", three, "0", "00011111", "0", "s0 s1 s3 s5 s7", 3}, {"L/", three, "0", "0011111", "0", "s0 s1 s3 s5 s6 s7 s7", 3}, {"L/", three, "0", "0000000000", "0", "s0 s1 s3 s5 s7", 3},
		{"L/", "halt", "9", "1", "9", "s0", 0}, {"L/", "halt", "9", "111", "9", "s0", 0}, {"L/", "const 0 5; put 0 0; jump 3; halt", "9", "11111", "5", "s0 s1 s2 s3", 0},
		// A branch that is not executed has no prediction.
		{"L/", "jump 2; zero 0 0; zero 0 4; fence; halt", "9", "1", "9", "s0 s2 s3 s4", 1}, {"L/", "jump 2; zero 0 0; zero 0 4; fence; halt", "9", "01", "9", "s0 s2 s4", 1},
	} {
		checkSpecRow(t, row)
	}
}

func TestWrongPredictionsOfLoops(t *testing.T) {
	const nested = "const 1 2; const 2 2; loop 2 2; loop 1 1; halt"
	for _, row := range []specRow{
		// Each round of a loop to itself. After the last one, the counter goes on from 0.
		{"L/", "const 0 3; loop 0 1; halt", "9", "", "9", "s0 s1 s1 s1 s2", 3}, {"L/", "const 0 3; loop 0 1; halt", "9", "1", "9", "s0 s1 s2 s1 s1 s2", 3}, {"L/", "const 0 3; loop 0 1; halt", "9", "01", "9", "s0 s1 s1 s2 s1 s2", 3}, {"L/", "const 0 3; loop 0 1; halt", "9", "001", "9", "s0 s1 s1 s1 s1 s1 s1 s1 s2", 3}, {"L/", "const 0 3; loop 0 1; halt", "9", "111", "9", "s0 s1 s2 s1 s2 s1 s1 s1 s1 s1 s2", 3}, {"L/", "const 0 3; loop 0 1; halt", "9", "0001", "9", "s0 s1 s1 s1 s2", 3},
		// A loop with a body.
		{"L/", "const 0 2; fence; loop 0 1; halt", "9", "1", "9", "s0 s1 s2 s3 s1 s2 s3", 2}, {"L/", "const 0 2; fence; loop 0 1; halt", "9", "01", "9", "s0 s1 s2 s1 s2 s1 s3", 2}, {"L/", "const 0 2; release 0; loop 0 1; halt", "9", "11", "9", "s0 s1 o2 s2 s3 s1 o1 s2 s1 o0 s2 s1 o255 s2 s3", 2},
		// A loop in a loop, at each of the six branches.
		{"L/", nested, "9", "", "9", "s0 s1 s2 s2 s3 s1 s2 s2 s3 s4", 6}, {"L/", nested, "9", "1", "9", "s0 s1 s2 s3 s1 s2 s2 s2 s3 s1 s2 s2 s3 s4", 6}, {"L/", nested, "9", "01", "9", "s0 s1 s2 s2 s2 s2 s2 s2 s3 s1 s2 s2 s3 s4", 6}, {"L/", nested, "9", "001", "9", "s0 s1 s2 s2 s3 s4 s1 s2 s2 s3 s4", 6},
		{"L/", nested, "9", "0001", "9", "s0 s1 s2 s2 s3 s1 s2 s3 s4 s2 s3 s4", 6}, {"L/", nested, "9", "00001", "9", "s0 s1 s2 s2 s3 s1 s2 s2 s2 s2 s2 s2 s3 s4", 6}, {"L/", nested, "9", "000001", "9", "s0 s1 s2 s2 s3 s1 s2 s2 s3 s1 s2 s2 s3 s4", 6},
		// The wrong path starts with the counter as the loop leaves it.
		{"L/", "const 0 3; loop 0 4; release 0; halt; halt", "9", "1", "9", "s0 s1 s2 o2 s3 s4", 1}, {"L/", "const 0 1; loop 0 3; halt; release 0; halt", "9", "1", "9", "s0 s1 s3 o0 s4 s2", 1}, {"L/", "loop 0 3; release 0; halt; halt", "9", "1", "9", "s0 s1 o255 s2 s3", 1},
	} {
		checkSpecRow(t, row)
	}
}

func TestWrongPredictionsByTarget(t *testing.T) {
	for _, row := range []specRow{
		// The next instruction: an OpZero that is taken and one that is not, and the same for OpLoop.
		{"L/", "get 0 0; zero 0 2; const 1 5; halt", "0", "1", "0", "s0 s1 s2 s3 s2 s3", 1}, {"L/", "get 0 0; zero 0 2; const 1 5; halt", "7", "1", "7", "s0 s1 s2 s3 s2 s3", 1}, {"L/", "get 0 0; loop 0 2; const 1 5; halt", "7", "1", "7", "s0 s1 s2 s3 s2 s3", 1}, {"L/", "get 0 0; loop 0 2; const 1 5; halt", "1", "1", "1", "s0 s1 s2 s3 s2 s3", 1},
		{"L/", "zero 0 1; halt", "0", "1", "0", "s0 s1 s1", 1}, {"L/", "loop 0 1; fence; halt", "0", "1", "0", "s0 s1 s1 s2", 1}, {"L/", "zero 0 1; loop 0 2; halt", "0", "11", "0", "s0 s1 s2 s1 s2 s2", 2},
		// The branch itself.
		{"L/", "get 0 0; zero 0 1; halt", "5", "1", "5", "s0 s1 s1 s2 s2", 1}, {"L/", "get 0 0; loop 0 1; halt", "2", "1", "2", "s0 s1 s2 s1 s2", 2}, {"L/", "get 0 0; loop 0 1; halt", "2", "01", "2", "s0 s1 s1 s1 s1 s1 s1 s2", 2},
		// An earlier instruction, which is taken or not.
		{"L/", "fence; get 0 0; zero 0 0; halt", "5", "1", "5", "s0 s1 s2 s0 s3", 1}, {"L/", "jump 2; halt; get 0 0; zero 0 1; fence; halt", "0", "1", "0", "s0 s2 s3 s4 s1", 1}, {"L/", "get 0 0; release 0; loop 0 1; fence; halt", "2", "1", "2", "s0 s1 o2 s2 s3 s1 o1 s2 s3 s4", 2}, {"L/", "get 0 0; release 0; loop 0 1; fence; halt", "2", "01", "2", "s0 s1 o2 s2 s1 o1 s2 s1 o0 s2 s1 o255 s2 s3 s4", 2}, {"L/", "get 0 0; zero 0 0; halt", "5", "1", "5", "s0 s1 s0 s1 s2 s2", 1},
		// A later one.
		{"L/", "get 0 0; zero 0 3; fence; halt", "0", "1", "0", "s0 s1 s2 s3", 1}, {"L/", "get 0 0; zero 0 3; fence; halt", "1", "1", "1", "s0 s1 s3 s2 s3", 1}, {"L/", "get 0 0; loop 0 3; fence; halt", "2", "1", "2", "s0 s1 s2 s3", 1}, {"L/", "get 0 0; loop 0 3; fence; halt", "1", "1", "1", "s0 s1 s3 s2 s3", 1}, {"L/", "get 0 0; loop 0 3; fence; halt", "0", "1", "0", "s0 s1 s2 s3", 1},
		// The first and the last instruction.
		{"L/", "zero 1 2; zero 1 0; get 1 0; zero 1 0; halt", "3", "1", "3", "s0 s1 s0 s2 s3 s2 s3 s4", 2}, {"L/", "zero 1 2; zero 1 0; get 1 0; zero 1 0; halt", "3", "01", "3", "s0 s2 s3 s0 s1 s2 s3 s4", 2}, {"L/", "get 0 0; zero 0 5; const 0 1; const 0 2; const 0 3; halt", "1", "1", "1", "s0 s1 s5 s2 s3 s4 s5", 1},
	} {
		checkSpecRow(t, row)
	}
}

func TestWrongPathsChangeNothing(t *testing.T) {
	const rounds = "const 0 2; zero 1 4; loop 0 2; halt; loop 0 4; halt"
	for _, row := range []specRow{
		// Registers and variables. What follows reads them.
		{"L/", "get 0 0; zero 0 3; const 1 9; put 0 1; halt", "0", "1", "0", "s0 s1 s2 s3 s4 s3 s4", 1}, {"LL/", "get 0 0; zero 0 4; const 1 9; put 0 1; get 2 0; put 1 2; halt", "0 5", "1", "0 0", "s0 s1 s2 s3 s4 s5 s4 s5 s6", 1}, {"LL/", "get 0 0; zero 0 3; put 1 0; bin 0 4 0 0; put 0 0; halt", "4 9", "1", "8 4", "s0 s1 s3 s4 s5 s2 s3 s4 s5", 1},
		{"LL/", "zero 0 2; get 0 0; select 1 0 0 0; put 1 1; halt", "4 9", "1", "4 0", "s0 s1 s2 s3 s4 s2 s3 s4", 1},
		// Elements, though the path itself reads what it stores.
		{"L/L", "get 0 0; zero 0 4; const 1 9; store 0 1 1; load 2 0 3; put 0 2; halt", "0/5 6 7 8", "1", "5/5 6 7 8", "s0 s1 s2 s3 w1 s4 r0 s5 s4 r0 s5 s6", 1}, {"L/L", "get 0 0; zero 0 6; const 1 3; store 0 0 1; load 2 0 0; load 3 0 2; halt", "0/0 0 0 0", "1", "0/0 0 0 0", "s0 s1 s2 s3 w0 s4 r0 s5 r3 s6", 1},
		{"L/LL", "store 0 1 0; zero 0 4; store 1 1 1; halt; load 2 1 1; put 0 2; halt", "3/1 2 3 4/5 6 7 8", "1", "5/0 2 3 4/5 6 7 8", "s0 w0 s1 s2 w4 s3 s4 r4 s5 s6", 1},
		// A release is seen, and nothing else.
		{"LH/", "get 0 1; zero 1 3; release 0; halt", "0 77", "1", "0 77", "s0 s1 s2 o77 s3 s3", 1}, {"LH/", "get 0 1; zero 1 4; release 0; put 0 0; halt", "0 77", "1", "0 77", "s0 s1 s2 o77 s3 s4 s4", 1},
		// Loops in the path change neither counters nor the numbers of branches.
		{"L/", rounds, "9", "", "9", "s0 s1 s4 s4 s5", 3}, {"L/", rounds, "9", "1", "9", "s0 s1 s2 s2 s3 s4 s4 s5", 3}, {"L/", rounds, "9", "11", "9", "s0 s1 s2 s2 s3 s4 s5 s4 s5", 3}, {"L/", rounds, "9", "101", "9", "s0 s1 s2 s2 s3 s4 s4 s4 s4 s4 s4 s5", 3}, {"L/", rounds, "9", "1001", "9", "s0 s1 s2 s2 s3 s4 s4 s5", 3},
		{"L/", "zero 1 4; zero 2 2; zero 2 3; zero 2 1; zero 3 6; halt; halt", "9", "1", "9", "s0 s1 s2 s3 s1 s4 s6", 2}, {"L/", "zero 1 4; zero 2 2; zero 2 3; zero 2 1; zero 3 6; halt; halt", "9", "11", "9", "s0 s1 s2 s3 s1 s4 s5 s6", 2}, {"L/", "zero 1 4; zero 2 2; zero 2 3; zero 2 1; zero 3 6; halt; halt", "9", "01111", "9", "s0 s4 s5 s6", 2},
		// The execution goes on where the path halts, and where it would not end.
		{"L/", "zero 0 2; halt; const 0 7; put 0 0; halt", "9", "1", "7", "s0 s1 s2 s3 s4", 1}, {"L/", "zero 0 2; jump 1; const 0 7; put 0 0; halt", "9", "1", "7", "s0 s1 s1 s1 s1 s2 s3 s4", 1}, {"L/", "zero 0 2; zero 0 1; const 0 7; put 0 0; halt", "9", "1", "7", "s0 s1 s1 s1 s1 s2 s3 s4", 1},
		// The length of a path: a fence ends it, and so does the window.
		{"L/", "zero 0 5; fence; const 0 1; const 0 2; const 0 3; halt", "9", "1", "9", "s0 s1 s5", 1}, {"L/", "zero 0 5; const 0 1; fence; const 0 2; const 0 3; halt", "9", "1", "9", "s0 s1 s2 s5", 1}, {"L/", "zero 0 5; const 0 1; const 0 2; const 0 3; fence; halt", "9", "1", "9", "s0 s1 s2 s3 s4 s5", 1}, {"L/", "zero 0 6; const 0 1; const 0 2; const 0 3; const 0 4; fence; halt", "9", "1", "9", "s0 s1 s2 s3 s4 s6", 1}, {"L/", "zero 0 5; const 0 1; const 0 2; const 0 3; const 0 4; halt", "9", "1", "9", "s0 s1 s2 s3 s4 s5", 1},
	} {
		checkSpecRow(t, row)
	}
}

func TestPredictionsBeyondTheirEnd(t *testing.T) {
	c, m := codeIn(t, "L/", "const 0 3; loop 0 1; halt"), memoryIn("9")
	long := []bool{false, true, true, true}
	for size, want := range []string{"s0 s1 s1 s1 s2", "s0 s1 s1 s1 s2", "s0 s1 s1 s2 s1 s2"} {
		if _, events, ok := impl.SpecRun(c, m, long[:size]); !ok || eventsText(events) != want {
			t.Errorf("SpecRun with %d predictions = %s, %v, want %s", size, eventsText(events), ok, want)
		}
	}
	for _, wrong := range []bool{false, true} {
		checkSpecRun(t, c, m, slices.Repeat([]bool{wrong}, veryDeep))
		checkSpecRun(t, codeIn(t, "L/", "halt"), m, slices.Repeat([]bool{wrong}, veryDeep))
	}
}

func TestRunsWithoutWrongPredictions(t *testing.T) {
	numbers := source(111)
	halted, branched := 0, 0
	for i := range 1500 {
		c := numbers.someVerified(i)
		m := numbers.someMemory(impl.Program{Vars: c.Vars, Arrays: c.Arrays})
		if _, halts := plainEventsOf(c, m, 500); !halts && i%20 > 0 {
			continue
		}
		want, trace, ran := impl.RunCode(c, m)
		count, _ := impl.CountBranches(c, m)
		for _, wrong := range [][]bool{nil, {}, {false}, make([]bool, count), make([]bool, count+5), append(make([]bool, count), true, true)} {
			if !ran && len(wrong) > count {
				continue
			}
			out, events, ok := impl.SpecRun(c, m, wrong)
			if ok != ran || memoryText(out) != memoryText(want) || !slices.Equal(events, trace) {
				t.Errorf("SpecRun of %q with %s and %s = %s, %s, %v, and RunCode = %s, %s, %v", plainCodeText(c), memoryText(m), marks(wrong), memoryText(out), eventsText(events), ok, memoryText(want), eventsText(trace), ran)
			}
		}
		if ran {
			halted++
		}
		if count > 0 {
			branched++
		}
	}
	if halted < 700 || branched < 300 {
		t.Errorf("%d codes halted and %d had branches", halted, branched)
	}
}

// somePredictions returns predictions for at most about that many branches.
func (s *source) somePredictions(count int) []bool {
	wrong := make([]bool, s.below(count+3))
	often := 1 + s.below(3)
	for i := range wrong {
		wrong[i] = s.below(often) == 0
	}
	return wrong
}

func TestManyRunsWithPredictions(t *testing.T) {
	numbers := source(112)
	seen := map[string]int{}
	for i := range 4000 {
		c := numbers.someVerified(i)
		m := numbers.someMemory(impl.Program{Vars: c.Vars, Arrays: c.Arrays})
		if _, halts := plainEventsOf(c, m, 500); !halts {
			if seen["endless"]++; seen["endless"] < 40 {
				checkSpecRun(t, c, m, numbers.somePredictions(20))
			}
			continue
		}
		_, trace, _ := impl.RunCode(c, m)
		count, _ := impl.CountBranches(c, m)
		for range 4 {
			wrong := numbers.somePredictions(count)
			events, ok := checkSpecRun(t, c, m, wrong)
			if !ok {
				t.Errorf("%q does not halt with %s and %s", plainCodeText(c), memoryText(m), marks(wrong))
			}
			seen["halts"]++
			if slices.Contains(wrong[:min(count, len(wrong))], true) {
				seen["wrong"]++
				if len(events) <= len(trace) {
					t.Errorf("wrong predictions of %q with %s and %s are not seen", plainCodeText(c), memoryText(m), marks(wrong))
				}
			}
			if len(plainlyProjected(events)) > len(plainlyProjected(trace)) {
				seen["speculative accesses or releases"]++
			}
			if len(wrong) < count {
				seen["fewer"]++
			} else if len(wrong) > count {
				seen["more"]++
			}
		}
	}
	for what, least := range map[string]int{"endless": 40, "halts": 8000, "wrong": 2000, "speculative accesses or releases": 600, "fewer": 1000, "more": 3000} {
		if seen[what] < least {
			t.Errorf("%s were seen only %d times", what, seen[what])
		}
	}
}

// branchingInstrs returns instructions for code with size instructions. The first ones of them may be the last of the code, and that many are returned as well.
func branchingInstrs(size int) ([]impl.Instr, int) {
	list := []impl.Instr{instr(impl.OpHalt)}
	for target := range size {
		list = append(list, instr(impl.OpJump, target))
	}
	list = append(list, instr(impl.OpFence), instr(impl.OpConst, 0, 2), instr(impl.OpRelease, 0))
	for target := range size {
		list = append(list, instr(impl.OpZero, 0, target), instr(impl.OpLoop, 0, target))
	}
	return list, 1 + size
}

func TestAllSmallCodesWithAllPredictions(t *testing.T) {
	for size := 1; size <= 4; size++ {
		choices, last := branchingInstrs(size)
		codes, runs := 0, 0
		c := codeOf("L/", make([]impl.Instr, size)...)
		var fill func(at int)
		fill = func(at int) {
			if at < size {
				for i, in := range choices {
					if at == size-1 && i == last {
						break
					}
					c.List[at] = in
					fill(at + 1)
				}
				return
			}
			codes++
			checkFenced(t, c)
			_, branches, halts := plainSpecRun(c, memoryIn("7"), nil, 60)
			if !halts {
				return
			}
			for bits := range 1 << min(branches, 4) {
				checkSpecRun(t, c, memoryIn("7"), wrongIn(strconv.FormatInt(int64(bits+1<<min(branches, 4)), 2)[1:]))
				runs++
			}
		}
		fill(0)
		if want := []int{0, 2, 30, 676, 20480}[size]; codes != want || runs < codes/3 {
			t.Errorf("%d codes with %d instructions and %d runs were tried, want %d codes", codes, size, runs, want)
		}
	}
}

func TestPredictionsAndTheLimitOfSteps(t *testing.T) {
	for _, row := range []struct {
		in   impl.Instr
		last int
	}{{instr(impl.OpConst, 2, 5), 4}, {instr(impl.OpLoad, 5, 0, 0), 8}, {instr(impl.OpFence), 1}} {
		for _, steps := range []int{19973, 19999, 20000, 20001, 20100} {
			c, m := longCode(steps, row.in), memoryIn("3/4 5 6 7")
			_, trace, _ := impl.RunCode(c, m)
			for _, size := range []int{0, 1, 255, 256, 300} {
				events, ok := checkSpecRun(t, c, m, slices.Repeat([]bool{true}, size))
				// The only branch is executed 256 times. It leads back, and the path in front of it ends at a fence, but for the last time.
				more := 2 * min(size, 255)
				if size >= 256 {
					more += row.last
				}
				if ok != (steps <= 20000) || ok && len(events) != len(trace)+more {
					t.Errorf("code that halts as instruction %d with %d wrong predictions: SpecRun has %d events, of which %d should be additional, %v", steps, size, len(events), more, ok)
				}
			}
		}
	}
	// A path that halts does not end code that does not, and one that does not halt needs no steps.
	for _, row := range []struct{ list, memory string }{{"get 0 0; zero 0 1; halt", "0"}, {"zero 0 0; halt", "5"}, {"const 0 2; loop 0 0; halt", "5"}, {"zero 0 2; halt; jump 0", "5"}, {"loop 0 0; jump 0", "5"}} {
		c := codeIn(t, "L/", row.list)
		for _, size := range []int{0, 1, 2, 100, 20000, 30000} {
			if _, ok := checkSpecRun(t, c, memoryIn(row.memory), slices.Repeat([]bool{true}, size)); ok {
				t.Errorf("%s halts with %d wrong predictions", row.list, size)
			}
		}
		checkNotSpeculated(t, row.list, c, memoryIn(row.memory))
	}
	if _, events, ok := impl.SpecRun(codeIn(t, "L/", "get 0 0; zero 0 1; halt"), memoryIn("1"), wrongIn("1")); !ok || eventsText(events) != "s0 s1 s1 s2 s2" {
		t.Errorf("SpecRun = %s, %v", eventsText(events), ok)
	}
}

func TestManyWrongPredictions(t *testing.T) {
	// All of 20000 instructions but the last are branches: 256 rounds of 78 of them, which are 19968, and 31 more.
	var list []impl.Instr
	for at := range 77 {
		list = append(list, instr([]int{impl.OpZero, impl.OpLoop}[at%2], at%2, at+1))
	}
	list = append(list, instr(impl.OpLoop, 2, 0))
	for at := range 31 {
		list = append(list, instr(impl.OpZero, 3, 79+at))
	}
	c := codeOf("L/", append(list, instr(impl.OpHalt))...)
	m := memoryIn("9")
	if count, ok := impl.CountBranches(c, m); !ok || count != 19999 {
		t.Errorf("CountBranches = %d, %v", count, ok)
	}
	for _, wrong := range [][]bool{slices.Repeat([]bool{true}, 19999), slices.Repeat([]bool{true, false}, 10000), append(make([]bool, 19998), true), slices.Repeat([]bool{true}, 25000)} {
		if _, ok := checkSpecRun(t, c, m, wrong); !ok {
			t.Error("SpecRun does not halt")
		}
	}
	// With one more, there is no result.
	c.List = slices.Insert(c.List, len(c.List)-1, instr(impl.OpFence))
	if _, ok := checkSpecRun(t, c, m, slices.Repeat([]bool{true}, 19999)); ok {
		t.Error("SpecRun executes 20001 instructions")
	}
}

func TestCodeThatIsNotSpeculated(t *testing.T) {
	for what, c := range invalidCodes() {
		checkNotSpeculated(t, what, c, zeroMemory(c))
		checkNotSpeculated(t, what, c, memoryIn("0"))
		checkNotSpeculated(t, what, c, impl.Memory{})
	}
	for text, list := range invalidMemories() {
		p := parsed(t, text)
		c := impl.Code{Vars: p.Vars, Arrays: p.Arrays, List: []impl.Instr{instr(impl.OpZero, 0, 1), instr(impl.OpHalt)}}
		for _, memory := range list {
			checkNotSpeculated(t, text+" "+memory, c, memoryIn(memory))
		}
		if _, ok := checkSpecRun(t, c, zeroMemory(c), wrongIn("1")); !ok {
			t.Errorf("SpecRun for %s is false", text)
		}
	}
	c := codeIn(t, "LHU/HX", "zero 0 1; halt")
	for _, n := range []int{-1, 256, 1 << 32, math.MaxInt, math.MinInt} {
		m := memoryIn("10 20 30/40 41 42 43/50 51 52 53")
		for _, numbers := range append([][]int{m.Vals}, m.Arrays...) {
			for i, old := range numbers {
				numbers[i] = n
				checkNotSpeculated(t, "value "+strconv.Itoa(n), c, m)
				numbers[i] = old
			}
		}
	}
}

func TestCountBranches(t *testing.T) {
	for _, row := range []struct {
		list, memory string
		count        int
	}{
		// Without branches.
		{"halt", "5", 0}, {"jump 1; halt", "5", 0}, {"const 0 5; put 0 0; fence; release 0; halt", "5", 0}, {"halt; zero 0 0; halt", "5", 0}, {"jump 2; zero 0 0; halt", "5", 0},
		// That are taken and that are not.
		{"zero 0 1; halt", "5", 1}, {"loop 0 1; halt", "5", 1}, {"get 0 0; zero 0 2; halt", "5", 1}, {"get 0 0; zero 0 3; halt; halt", "0", 1}, {"get 0 0; zero 0 4; zero 1 4; halt; halt", "0", 1}, {"get 0 0; zero 0 4; zero 1 4; halt; halt", "1", 2}, {"zero 0 1; zero 0 2; loop 0 3; zero 0 4; halt", "5", 4},
		// Loops.
		{"const 0 1; loop 0 1; halt", "5", 1}, {"const 0 3; loop 0 1; halt", "5", 3}, {"get 0 0; loop 0 1; halt", "200", 200}, {"loop 0 0; halt", "5", 256}, {"const 0 3; fence; zero 1 3; loop 0 1; halt", "5", 6}, {"const 0 2; loop 0 1; const 0 3; loop 0 3; halt", "5", 5},
		// Nested loops.
		{"const 9 3; const 10 2; loop 10 2; loop 9 1; halt", "5", 9}, {"const 9 3; const 10 3; const 11 3; loop 11 3; loop 10 2; loop 9 1; halt", "5", 39}, {"const 9 2; const 10 2; zero 0 4; fence; loop 10 2; loop 9 1; halt", "5", 10}, {"const 9 3; fence; loop 10 2; loop 9 1; halt", "5", 3*1 + 256*3},
	} {
		c := codeIn(t, "L/", row.list)
		if count, ok := impl.CountBranches(c, memoryIn(row.memory)); !ok || count != row.count {
			t.Errorf("CountBranches of %s with %s = %d, %v, want %d", row.list, row.memory, count, ok, row.count)
		}
		checkSpecRun(t, c, memoryIn(row.memory), slices.Repeat([]bool{true}, row.count))
	}
	for text, want := range map[string]int{"LH//": 0, "LH//a:=1;": 0, "LH//ifa{}{}": 1, "LH//ifa{ifb{}{}}{}": 1, "LH//repeat3{}": 3, "LH//repeat3{repeat2{a:=1;}}": 9, "LH//repeat2{ifa{}{b:=1;}ifb{a:=1;}{}}": 6, "LH//repeat3{repeat3{repeat3{repeat3{repeat3{}}}}}": 3 + 9 + 27 + 81 + 243} {
		c, _ := impl.CompileProgram(parsed(t, text))
		if count, ok := impl.CountBranches(c, memoryIn("0 0")); !ok || count != want {
			t.Errorf("CountBranches of the code of %s = %d, %v, want %d", text, count, ok, want)
		}
	}
}

func TestCountBranchesOfManyPrograms(t *testing.T) {
	numbers := source(113)
	counted := 0
	for range 3000 {
		p := numbers.someProgram(5)
		c, ok := impl.CompileProgram(p)
		if !ok || strings.Contains(impl.FormatProgram(p), "repeat") {
			continue
		}
		m := numbers.someMemory(p)
		_, trace, _ := impl.RunProgram(p, m)
		want := strings.Count(" "+impl.FormatTrace(trace), " b")
		if count, ok := impl.CountBranches(c, m); !ok || count != want {
			t.Errorf("CountBranches of the code of %q with %s = %d, %v, want %d", impl.FormatProgram(p), memoryText(m), count, ok, want)
		}
		counted += want
	}
	if counted < 150 {
		t.Errorf("only %d branches were counted", counted)
	}
}

// plainlyFenced returns FenceCode of valid code, however long it is, and for each instruction of it which one it is of c, or -1 if it is inserted.
// It inserts one fence after the other, from the last to the first.
func plainlyFenced(c impl.Code) (impl.Code, []int) {
	ends := map[int]bool{}
	for at, in := range c.List {
		if isPlainBranch(in) {
			ends[at+1], ends[plainTarget(in)] = true, true
		}
	}
	result := clonedCode(c)
	var from []int
	for at := range c.List {
		from = append(from, at)
	}
	for at := len(c.List) - 1; at >= 0; at-- {
		if !ends[at] || c.List[at].Op == impl.OpFence {
			continue
		}
		for i, in := range result.List {
			if target := plainTarget(in); target > at {
				result.List[i] = withTarget(in, target+1)
			}
		}
		result.List = slices.Insert(result.List, at, instr(impl.OpFence))
		from = slices.Insert(from, at, -1)
	}
	return result, from
}

// isPlainlyFenced is CodeFenced for valid code.
func isPlainlyFenced(c impl.Code) bool {
	for at, in := range c.List {
		if isPlainBranch(in) && (c.List[at+1].Op != impl.OpFence || c.List[plainTarget(in)].Op != impl.OpFence) {
			return false
		}
	}
	return true
}

// checkFenced checks FenceCode and CodeFenced for valid code, and returns the fenced code, if there is any.
func checkFenced(t *testing.T, c impl.Code) (impl.Code, bool) {
	t.Helper()
	if got, want := impl.CodeFenced(c), isPlainlyFenced(c); got != want {
		t.Errorf("CodeFenced of %q = %v", plainCodeText(c), got)
	}
	want, _ := plainlyFenced(c)
	f, ok := impl.FenceCode(c)
	if len(want.List) > 400 {
		if ok || !isZeroCode(f) {
			t.Errorf("FenceCode of %d instructions, which would become %d, = %d instructions, %v", len(c.List), len(want.List), len(f.List), ok)
		}
		return f, false
	}
	if !ok || !slices.Equal(f.List, want.List) || !equalLists(f.Vars, c.Vars) || !equalLists(f.Arrays, c.Arrays) || !impl.CodeValid(f) {
		t.Fatalf("FenceCode of %q = %v, %v, want %q", plainCodeText(c), f, ok, plainCodeText(want))
	}
	if !impl.CodeFenced(f) {
		t.Errorf("CodeFenced of %q is false, which is FenceCode of %q", plainCodeText(f), plainCodeText(c))
	}
	if again, ok := impl.FenceCode(f); !ok || !slices.Equal(again.List, f.List) || impl.CodeFenced(c) && !slices.Equal(f.List, c.List) {
		t.Errorf("FenceCode of %q = %q, %v, though it is fenced", plainCodeText(f), plainCodeText(again), ok)
	}
	return f, true
}

func TestFencedCode(t *testing.T) {
	for list, want := range map[string]string{
		// Without branches.
		"halt": "", "jump 0": "", everyOperation: "", "jump 2; halt; jump 1": "", "fence; halt": "", "const 0 5; put 0 0; halt": "", "jump 1; jump 0": "",
		// To the next instruction.
		"zero 0 1; halt": "zero 0 1; fence; halt", "loop 0 1; halt": "loop 0 1; fence; halt", "get 0 0; zero 0 2; const 0 1; halt": "get 0 0; zero 0 2; fence; const 0 1; halt", "zero 0 1; zero 0 2; halt": "zero 0 1; fence; zero 0 3; fence; halt",
		// To itself.
		"zero 0 0; halt": "fence; zero 0 0; fence; halt", "loop 0 0; halt": "fence; loop 0 0; fence; halt", "const 0 3; loop 0 1; halt": "const 0 3; fence; loop 0 1; fence; halt", "fence; loop 0 1; halt": "fence; fence; loop 0 1; fence; halt",
		// To the first and to the last instruction.
		"const 0 3; fence; loop 0 0; halt": "fence; const 0 3; fence; loop 0 0; fence; halt", "get 0 0; zero 0 0; halt": "fence; get 0 0; zero 0 0; fence; halt", "fence; zero 0 0; halt": "fence; zero 0 0; fence; halt", "zero 0 3; fence; jump 0; jump 0": "zero 0 3; fence; jump 0; fence; jump 0",
		leakyCode: "get 0 0; zero 0 5; fence; get 1 1; load 2 0 1; fence; halt",
		// To a fence, and with a fence behind it.
		"zero 0 2; halt; fence; halt": "zero 0 3; fence; halt; fence; halt", "zero 0 3; fence; halt; halt": "zero 0 3; fence; halt; fence; halt", "zero 0 3; fence; halt; fence; halt": "", "zero 0 1; fence; halt": "", "loop 0 1; fence; halt": "", "fence; loop 0 0; fence; halt": "", "const 0 2; fence; put 0 0; loop 0 1; fence; halt": "", "const 0 2; fence; put 0 0; loop 0 1; halt": "const 0 2; fence; put 0 0; loop 0 1; fence; halt",
		"zero 0 2; fence; fence; halt": "", "zero 0 2; fence; const 0 1; halt": "zero 0 2; fence; fence; const 0 1; halt",
		// Several to one target, and to what follows another one.
		"zero 0 3; zero 1 3; loop 2 3; halt": "zero 0 5; fence; zero 1 5; fence; loop 2 5; fence; halt", "zero 0 4; fence; zero 1 4; fence; halt": "zero 0 4; fence; zero 1 4; fence; fence; halt", "zero 0 2; halt; halt": "zero 0 3; fence; halt; fence; halt", "zero 0 3; halt; loop 0 3; halt": "zero 0 4; fence; halt; loop 0 4; fence; halt", "loop 0 2; loop 0 1; halt": "loop 0 3; fence; loop 0 1; fence; halt", "zero 0 1; loop 0 0; halt": "fence; zero 0 2; fence; loop 0 0; fence; halt",
		// Jumps to what gets a fence and to what does not, forwards and backwards.
		"jump 3; zero 0 3; jump 4; const 0 1; halt": "jump 4; zero 0 4; fence; jump 6; fence; const 0 1; halt", "jump 2; halt; zero 0 1; jump 1": "jump 3; fence; halt; zero 0 1; fence; jump 1", "jump 1; zero 0 3; jump 2; jump 1": "jump 1; zero 0 4; fence; jump 2; fence; jump 1", "jump 2; zero 0 2; fence; jump 1": "", "zero 0 4; fence; jump 5; halt; fence; jump 3": "",
		"fence; jump 0; zero 0 4; jump 1; jump 2": "fence; jump 0; zero 0 5; fence; jump 1; fence; jump 2", "jump 5; zero 0 3; halt; halt; jump 5; halt": "jump 7; zero 0 4; fence; halt; fence; halt; jump 7; halt", "zero 0 2; jump 3; halt; halt": "zero 0 3; fence; jump 5; fence; halt; halt",
		// What cannot be reached counts, too.
		"halt; zero 0 0; halt": "fence; halt; zero 0 0; fence; halt", "jump 2; loop 0 2; halt": "jump 2; loop 0 2; fence; halt", "halt; loop 3 1; jump 1": "halt; fence; loop 3 1; fence; jump 1",
	} {
		fenced := want == ""
		if fenced {
			want = list
		}
		c := codeIn(t, "LH/L", list)
		f, ok := impl.FenceCode(c)
		if !ok || !reflect.DeepEqual(f, codeIn(t, "LH/L", want)) {
			t.Errorf("FenceCode of %s = %q, %v, want %s", list, plainCodeText(f), ok, want)
		}
		if got := impl.CodeFenced(c); got != fenced {
			t.Errorf("CodeFenced of %s = %v", list, got)
		}
		checkFenced(t, c)
		numbers := source(len(list))
		checkFencedRuns(t, c, &numbers, 10)
	}
}

func TestFencedCodeAtTheLimit(t *testing.T) {
	branches := func(count int, rest ...impl.Instr) []impl.Instr {
		var list []impl.Instr
		for at := range count {
			list = append(list, instr(impl.OpZero, 0, at+1))
		}
		return append(list, append(rest, instr(impl.OpHalt))...)
	}
	long := func(size int, in impl.Instr, at int) []impl.Instr {
		list := append(slices.Repeat([]impl.Instr{instr(impl.OpConst, 1, 1)}, size-1), instr(impl.OpHalt))
		list[at] = in
		return list
	}
	for _, row := range []struct {
		what string
		list []impl.Instr
		size int
	}{
		{"199 branches", branches(199), 399}, {"199 branches and one instruction", branches(199, instr(impl.OpConst, 0, 1)), 400}, {"199 branches and two", branches(199, instr(impl.OpConst, 0, 1), instr(impl.OpConst, 0, 1)), 401}, {"200 branches", branches(200), 401}, {"399 branches", branches(399), 799},
		{"200 branches, and a fence behind the last", branches(200, instr(impl.OpFence)), 401}, {"199 branches, and two fences behind the last", branches(199, instr(impl.OpFence), instr(impl.OpFence)), 399 + 1},
		{"a branch to the next of 399", long(399, instr(impl.OpZero, 0, 1), 0), 400}, {"a branch to the next of 400", long(400, instr(impl.OpZero, 0, 1), 0), 401}, {"a branch to another one of 398", long(398, instr(impl.OpLoop, 0, 9), 3), 400}, {"a branch to another one of 399", long(399, instr(impl.OpLoop, 0, 9), 3), 401}, {"a branch to itself of 398", long(398, instr(impl.OpLoop, 0, 3), 3), 400}, {"the last but one of 399 to the last", long(399, instr(impl.OpZero, 0, 398), 397), 400}, {"the last but one of 400 to the last", long(400, instr(impl.OpZero, 0, 399), 398), 401},
		{"no branch in 400", long(400, instr(impl.OpJump, 399), 3), 400}, {"no branch in 1", []impl.Instr{instr(impl.OpHalt)}, 1},
	} {
		c := codeOf("LH/L", row.list...)
		f, ok := checkFenced(t, c)
		if ok != (row.size <= 400) || ok && len(f.List) != row.size {
			t.Errorf("%s: FenceCode has %d instructions, %v, want %d", row.what, len(f.List), ok, row.size)
		}
	}
	// Fenced code with 400 instructions stays.
	list := slices.Repeat([]impl.Instr{instr(impl.OpZero, 0, 1), instr(impl.OpFence)}, 199)
	for at := range list {
		if at%2 == 0 {
			list[at] = instr(impl.OpZero, 0, (at*7+1)%398/2*2+1)
		}
	}
	c := codeOf("LH/L", append(list, instr(impl.OpJump, 1), instr(impl.OpHalt))...)
	if f, ok := checkFenced(t, c); !ok || !impl.CodeFenced(c) || !impl.CodeSame(f, c) || len(c.List) != 400 {
		t.Errorf("FenceCode of %q = %q, %v", plainCodeText(c), plainCodeText(f), ok)
	}
	c.List[398] = instr(impl.OpZero, 0, 399)
	if f, ok := checkFenced(t, c); ok || impl.CodeFenced(c) {
		t.Errorf("FenceCode of %q = %q, %v", plainCodeText(c), plainCodeText(f), ok)
	}
}

func TestInvalidCodeIsNotFenced(t *testing.T) {
	codes := invalidCodes()
	for op := impl.OpConst; op <= impl.OpHalt; op++ {
		for i := range 4 {
			c := withInstr("LH/LH", 5, 2, leastInstr(op))
			*fieldOf(&c.List[2], i) = -1
			codes[opTable[op].name+" with -1 as field "+strconv.Itoa(i)] = c
			// What is not reached must be valid, too.
			c = withInstr("LH/LH", 5, 3, leastInstr(op))
			*fieldOf(&c.List[3], i) = 1 << 32
			c.List[0] = instr(impl.OpHalt)
			codes[opTable[op].name+" that is not reached, field "+strconv.Itoa(i)] = c
		}
	}
	codes["fences and a label 4"] = impl.Code{Vars: []int{4}, List: []impl.Instr{instr(impl.OpZero, 0, 1), instr(impl.OpFence), instr(impl.OpHalt)}}
	codes["fences and a label -1 of an array"] = impl.Code{Vars: []int{0}, Arrays: []int{-1}, List: []impl.Instr{instr(impl.OpZero, 0, 1), instr(impl.OpFence), instr(impl.OpHalt)}}
	codes["a branch to a fence at the end"] = codeOf("L/", instr(impl.OpHalt), instr(impl.OpZero, 0, 2), instr(impl.OpFence))
	codes["a branch at the end"] = codeOf("L/", instr(impl.OpFence), instr(impl.OpZero, 0, 0))
	codes["a branch past the end"] = codeOf("L/", instr(impl.OpZero, 0, 3), instr(impl.OpFence), instr(impl.OpHalt))
	codes["401 instructions without a branch"] = withInstr("L/", 401, 0, instr(impl.OpFence))
	codes["very many"] = withInstr("L/", veryDeep, 0, instr(impl.OpZero, 0, 1))
	for what, c := range codes {
		if f, ok := impl.FenceCode(c); ok || !isZeroCode(f) {
			t.Errorf("%s: FenceCode = %v, %v", what, f, ok)
		}
		if impl.CodeFenced(c) {
			t.Errorf("%s: CodeFenced is true", what)
		}
	}
}

// checkFencedRun checks that fenced code does what the code does, apart from the steps of fences. The code halts soon.
func checkFencedRun(t *testing.T, c impl.Code, f impl.Code, m impl.Memory) {
	t.Helper()
	_, from := plainlyFenced(c)
	want, trace, _ := impl.RunCode(c, m)
	out, events, ok := impl.RunCode(f, m)
	if !ok || memoryText(out) != memoryText(want) {
		t.Errorf("%q makes %s of %s, but fenced it makes %s, %v", plainCodeText(c), memoryText(want), memoryText(m), memoryText(out), ok)
	}
	var others []impl.Event
	for _, event := range events {
		if event.Kind == impl.EventStep {
			event.Value = from[event.Value]
		}
		if event.Kind != impl.EventStep || event.Value >= 0 {
			others = append(others, event)
		}
	}
	if !slices.Equal(others, trace) {
		t.Errorf("%q with %s has the events %s, but fenced %s", plainCodeText(c), memoryText(m), eventsText(trace), eventsText(events))
	}
	first, _ := impl.CountBranches(c, m)
	if second, ok := impl.CountBranches(f, m); !ok || first != second {
		t.Errorf("%q with %s has %d branches, but fenced %d, %v", plainCodeText(c), memoryText(m), first, second, ok)
	}
}

// checkFencesAdded checks that each wrong prediction adds the step of a fence to the events of fenced code that halts, and nothing else. It returns how many do.
func checkFencesAdded(t *testing.T, f impl.Code, m impl.Memory, wrong []bool) int {
	t.Helper()
	_, trace, _ := impl.RunCode(f, m)
	var want []impl.Event
	branches, added := 0, 0
	for i, event := range trace {
		want = append(want, event)
		if event.Kind != impl.EventStep || !isPlainBranch(f.List[event.Value]) {
			continue
		}
		if branches < len(wrong) && wrong[branches] {
			other := event.Value + 1 + plainTarget(f.List[event.Value]) - trace[i+1].Value
			if f.List[other].Op != impl.OpFence {
				t.Errorf("instruction %d of %q is no fence", other, plainCodeText(f))
			}
			want = append(want, impl.Event{Kind: impl.EventStep, Value: other})
			added++
		}
		branches++
	}
	if _, events, ok := impl.SpecRun(f, m, wrong); !ok || !slices.Equal(events, want) {
		t.Errorf("SpecRun of %q with %s and %s = %s, %v, want %s", plainCodeText(f), memoryText(m), marks(wrong), eventsText(events), ok, eventsText(want))
	}
	return added
}

// checkFencedRuns checks what fenced code does with some memories for which the code halts soon, and returns how many there were and how many fences wrong predictions added.
func checkFencedRuns(t *testing.T, c impl.Code, numbers *source, count int) (int, int) {
	t.Helper()
	f, ok := checkFenced(t, c)
	if !ok {
		return 0, 0
	}
	halted, added := 0, 0
	for range count {
		m := numbers.someMemory(impl.Program{Vars: c.Vars, Arrays: c.Arrays})
		if _, halts := plainEventsOf(c, m, 2000); !halts {
			return halted, added
		}
		halted++
		checkFencedRun(t, c, f, m)
		branches, _ := impl.CountBranches(f, m)
		for range 3 {
			wrong := numbers.somePredictions(branches)
			added += checkFencesAdded(t, f, m, wrong)
			checkSpecRun(t, f, m, wrong)
		}
	}
	return halted, added
}

func TestManyFencedCodes(t *testing.T) {
	numbers := source(114)
	seen := map[string]int{}
	for i := range 3000 {
		c := numbers.someVerified(i)
		if i%4 == 0 {
			c = numbers.manyJumps(400)
		}
		if impl.CodeFenced(c) {
			seen["fenced already"]++
		}
		if f, ok := impl.FenceCode(c); !ok {
			seen["too long"]++
		} else if len(f.List) > len(c.List)+3 {
			seen["several fences"]++
		}
		halted, added := checkFencedRuns(t, c, &numbers, 4)
		seen["halted"] += halted
		seen["added"] += added
	}
	for what, least := range map[string]int{"fenced already": 100, "too long": 10, "several fences": 1000, "halted": 4000, "added": 10000} {
		if seen[what] < least {
			t.Errorf("%s was seen only %d times", what, seen[what])
		}
	}
}

func TestFencesTakeSteps(t *testing.T) {
	// The fence at the beginning of the loop is executed 256 times, and the one behind it once. This may be too much for code that halts in time.
	c, m := longCode(19972, instr(impl.OpConst, 2, 5)), memoryIn("3/4 5 6 7")
	f, ok := checkFenced(t, c)
	if _, _, halts := impl.RunCode(c, m); !ok || !halts {
		t.Errorf("FenceCode is %v, and RunCode %v", ok, halts)
	}
	checkNotSpeculated(t, "20229 instructions", f, m)
	// With shorter rounds, it is not.
	c.List = slices.Delete(c.List, 1, 2)
	f, _ = checkFenced(t, c)
	checkFencedRun(t, c, f, m)
	if added := checkFencesAdded(t, f, m, slices.Repeat([]bool{true}, 300)); added != 256 {
		t.Errorf("%d fences were added", added)
	}
}

func TestFencedCompiledPrograms(t *testing.T) {
	for text, want := range map[string]string{
		"LH//": "halt", "LH//a:=1;": "const 0 1; put 0 0; halt", "LH//ifa{}{}": "get 0 0; zero 0 4; fence; jump 4; fence; halt", "LH//ifa{b:=1;}{b:=2;}": "get 0 0; zero 0 6; fence; const 0 1; put 1 0; jump 9; fence; const 0 2; put 1 0; halt",
		"LH//repeat3{}": "const 9 3; fence; loop 9 1; fence; halt", "LH//repeat2{a:=b;}": "const 9 2; fence; get 0 1; put 0 0; loop 9 1; fence; halt", "LH//repeat2{repeat3{}}": "const 9 2; fence; const 10 3; fence; loop 10 3; fence; loop 9 1; fence; halt", "LH//repeat2{ifa{}{}}": "const 9 2; fence; get 0 0; zero 0 6; fence; jump 6; fence; loop 9 1; fence; halt",
	} {
		c, _ := impl.CompileProgram(parsed(t, text))
		if f, ok := impl.FenceCode(c); !ok || !slices.Equal(f.List, codeIn(t, "LH/", want).List) {
			t.Errorf("FenceCode of the code of %s = %q, %v, want %s", text, plainCodeText(f), ok, want)
		}
	}
	numbers := source(115)
	halted, added, verified := 0, 0, 0
	for i := range 1200 {
		p := numbers.deepProgram(6)
		c, ok := impl.CompileProgram(p)
		if i%2 == 0 {
			c, ok = impl.CompileSecure(numbers.mostlyPublic(p))
		}
		if !ok {
			continue
		}
		some, more := checkFencedRuns(t, c, &numbers, 3)
		halted, added = halted+some, added+more
		// Fences do not change what a check says.
		result, _ := impl.CheckCode(c)
		if f, ok := impl.FenceCode(c); ok {
			if after, _ := impl.CheckCode(f); (after == impl.FlowFine) != (result == impl.FlowFine) {
				t.Errorf("CheckCode of the code of %q is %d, and fenced %d", impl.FormatProgram(p), result, after)
			}
			if result == impl.FlowFine {
				verified++
			}
		}
	}
	if halted < 1000 || added < 2000 || verified < 200 {
		t.Errorf("%d runs halted, %d fences were added and %d codes were verified", halted, added, verified)
	}
}

// checkSpeculationIsSafe checks that SpecRun has the same events for two memories that agree on what is public. It returns whether the code halts.
func checkSpeculationIsSafe(t *testing.T, c impl.Code, m impl.Memory, n impl.Memory, wrong []bool) bool {
	t.Helper()
	out, events, ok := impl.SpecRun(c, m, wrong)
	other, others, okToo := impl.SpecRun(c, n, wrong)
	if ok != okToo || !slices.Equal(events, others) {
		t.Errorf("%q has with %s the events %s, %v for %s, and %s, %v for %s", plainCodeText(c), marks(wrong), eventsText(events), ok, memoryText(m), eventsText(others), okToo, memoryText(n))
	}
	p := impl.Program{Vars: c.Vars, Arrays: c.Arrays}
	if ok && kept(p, out, isSecret) != kept(p, other, isSecret) {
		t.Errorf("%q makes %s of %s, and %s of %s", plainCodeText(c), memoryText(out), memoryText(m), memoryText(other), memoryText(n))
	}
	return ok
}

func TestVerifiedCodeLeaksNothingUnderPredictions(t *testing.T) {
	numbers := source(116)
	seen := map[string]int{}
	for i := range 9000 {
		c := numbers.someVerified(i)
		if result, _ := impl.CheckCode(c); result != impl.FlowFine || impl.CodeReleases(c) {
			continue
		}
		p := impl.Program{Vars: c.Vars, Arrays: c.Arrays}
		m := numbers.someMemory(p)
		n := numbers.changedAt(p, m, isSecret)
		if _, halts := plainEventsOf(c, m, 500); memoryText(m) == memoryText(n) || !halts {
			continue
		}
		_, trace, _ := impl.RunCode(c, m)
		branches, _ := impl.CountBranches(c, m)
		for range 4 {
			wrong := numbers.somePredictions(branches)
			if !checkSpeculationIsSafe(t, c, m, n, wrong) {
				t.Errorf("%q does not halt", plainCodeText(c))
			}
			_, events, _ := impl.SpecRun(c, m, wrong)
			seen["tried"]++
			if len(events) > len(trace) {
				seen["wrong predictions"]++
			}
			if len(plainlyProjected(events)) > len(plainlyProjected(trace)) {
				seen["speculative accesses"]++
			}
		}
	}
	for what, least := range map[string]int{"tried": 4000, "wrong predictions": 1200, "speculative accesses": 300} {
		if seen[what] < least {
			t.Errorf("%s were seen only %d times", what, seen[what])
		}
	}
}

func TestSecureCodeLeaksNothingUnderPredictions(t *testing.T) {
	numbers := source(117)
	tried, speculated := 0, 0
	for range 2500 {
		p := numbers.someSecretProgram(6)
		c, ok := impl.CompileSecure(p)
		if !ok || !impl.ReleaseFree(p) {
			continue
		}
		q := impl.Program{Vars: c.Vars, Arrays: c.Arrays}
		m := numbers.someMemory(q)
		n := numbers.changedAt(q, m, isSecret)
		branches, halts := impl.CountBranches(c, m)
		if !halts || branches == 0 || memoryText(m) == memoryText(n) {
			continue
		}
		best, _ := impl.OptimizeCode(c)
		for _, code := range []impl.Code{c, best} {
			for range 3 {
				wrong := numbers.somePredictions(branches)
				checkSpeculationIsSafe(t, code, m, n, wrong)
				if tried++; slices.Contains(wrong[:min(len(wrong), branches)], true) {
					speculated++
				}
			}
		}
	}
	if tried < 500 || speculated < 200 {
		t.Errorf("only %d runs, of which %d have wrong predictions, were tried", tried, speculated)
	}
}

func TestSpeculativeLeaks(t *testing.T) {
	// The example: the load is never executed, but its address is seen. Fences hide it.
	c := codeIn(t, "LH/L", leakyCode)
	if result, at := impl.CheckCode(c); result != impl.FlowAddress || at != 3 {
		t.Errorf("CheckCode = %d, %d", result, at)
	}
	f, _ := impl.FenceCode(c)
	for secret := range 256 {
		m := impl.Memory{Vals: []int{0, secret}, Arrays: [][]int{{1, 2, 3, 4}}}
		for _, row := range []struct {
			c     impl.Code
			wrong string
			want  string
		}{{c, "0", "s0 s1 s4"}, {c, "1", "s0 s1 s2 s3 r" + strconv.Itoa(secret%4) + " s4 s4"}, {f, "0", "s0 s1 s5 s6"}, {f, "1", "s0 s1 s2 s5 s6"}} {
			out, events, ok := impl.SpecRun(row.c, m, wrongIn(row.wrong))
			if !ok || memoryText(out) != memoryText(m) || eventsText(events) != row.want {
				t.Errorf("SpecRun of %q with %s and %s = %s, %s, %v, want %s", plainCodeText(row.c), memoryText(m), row.wrong, memoryText(out), eventsText(events), ok, row.want)
			}
		}
	}
	// Without releases is needed: one that is never executed is seen, though the code is verified.
	c = codeIn(t, "LH/", "get 0 1; zero 1 3; release 0; halt")
	if result, _ := impl.CheckCode(c); result != impl.FlowFine || !impl.CodeReleases(c) {
		t.Errorf("CheckCode = %d", result)
	}
	for secret := range 256 {
		if _, events, ok := impl.SpecRun(c, impl.Memory{Vals: []int{0, secret}}, wrongIn("1")); !ok || eventsText(events) != "s0 s1 s2 o"+strconv.Itoa(secret)+" s3 s3" {
			t.Errorf("SpecRun with %d = %s, %v", secret, eventsText(events), ok)
		}
	}
}

// speculateCode has branches of both kinds, and wrong paths with everything that they can do.
const speculateCode = "get 0 0; zero 0 4; store 1 0 0; put 1 0; const 9 2; load 2 0 1; release 2; loop 9 5; zero 9 11; halt; fence; put 2 2; halt"

func TestSpeculationKeepsArguments(t *testing.T) {
	for _, list := range []string{speculateCode, machineCode, "halt", "jump 0", "zero 0 2; fence; halt"} {
		c := spareCode(codeIn(t, "LHU/HX", list))
		keptCode := clonedCode(c)
		for pc := range c.List {
			s := machineIn(pc, "0=2 1=6 9=1")
			s.Regs = append(slices.Grow(s.Regs, 2), 77, 77)[:14]
			s.Mem = spareMemory(s.Mem)
			kept := machineText(s)
			wrong := append(make([]bool, 0, 8), true, false, true, true, false, true)[:4]
			impl.SpecPath(c, s)
			impl.SpecRun(c, s.Mem, wrong)
			impl.FenceCode(c)
			impl.CodeFenced(c)
			impl.CountBranches(c, s.Mem)
			if machineText(s) != kept || !reflect.DeepEqual(c, keptCode) || marks(wrong[:6]) != "101101" {
				t.Errorf("a function changed its argument: %v, %s, %s, want %s", c, machineText(s), marks(wrong[:6]), kept)
			}
			if !isSpareCodeKept(c) || !isSpareKept(s.Mem) || !slices.Equal(s.Regs[14:16], []int{77, 77}) {
				t.Error("a function changed what is beyond its argument")
			}
		}
	}
}

func TestSpeculationSharesNoMemory(t *testing.T) {
	listText := func(list []impl.Instr) string { return plainCodeText(impl.Code{List: list}) }
	for _, list := range []string{speculateCode, machineCode, "halt", "zero 0 0; halt", "zero 0 1; fence; halt"} {
		c := spareCode(codeIn(t, "LHU/HX", list))
		first, _ := impl.FenceCode(c)
		second, _ := impl.FenceCode(c)
		used := map[*int]bool{}
		numbersUsed(used, c.Vars, c.Arrays)
		if !numbersUsed(used, first.Vars, first.Arrays) || !numbersUsed(used, second.Vars, second.Arrays) {
			t.Errorf("a result of FenceCode for %s shares labels", list)
		}
		checkAlone(t, "FenceCode", func() []impl.Instr { f, _ := impl.FenceCode(c); return f.List }, listText, instr(impl.OpHalt))
		want := plainCodeText(second)
		for i := range c.List[:cap(c.List)] {
			c.List[:cap(c.List)][i] = instr(impl.OpFence)
		}
		if plainCodeText(second) != want {
			t.Errorf("a result of FenceCode for %s shares memory with its argument", list)
		}
	}
	for _, wrong := range []string{"", "0", "1", "01", "111111"} {
		c, m := codeIn(t, "LHU/HX", speculateCode), memoryIn("10 20 30/40 41 42 43/50 51 52 53")
		checkOwnMemory(t, "SpecRun", append(slices.Clone(m.Arrays), m.Vals, c.Vars, c.Arrays), func() (impl.Machine, []impl.Event) {
			out, events, ok := impl.SpecRun(c, m, wrongIn(wrong))
			if !ok {
				t.Error("SpecRun does not halt")
			}
			return impl.Machine{Mem: out}, events
		})
	}
	for pc := range 13 {
		c, s := codeIn(t, "LHU/HX", speculateCode), machineIn(pc, "0=2 1=6 9=1")
		checkAlone(t, "SpecPath", func() []impl.Event { events, _ := impl.SpecPath(c, s); return events }, eventsText, impl.Event{Kind: 3, Value: 77})
	}
	labels := []int{0, 1, 2, 3}
	both := impl.Code{Vars: labels, Arrays: labels[1:3], List: []impl.Instr{instr(impl.OpZero, 0, 0), instr(impl.OpHalt)}}
	if f, ok := impl.FenceCode(both); !ok || !numbersUsed(map[*int]bool{}, f.Vars, f.Arrays) || numbersText(labels) != "0 1 2 3" || !slices.Equal(f.Vars, labels) || !slices.Equal(f.Arrays, labels[1:3]) {
		t.Errorf("FenceCode = %v, %v, and the labels are %v", f, ok, labels)
	}
}

func TestSpeculationWithOneSlice(t *testing.T) {
	c := codeIn(t, "LLLL/LL", "const 0 200; zero 1 5; put 0 0; store 0 1 0; store 1 0 1; put 1 0; halt")
	shared := slices.Repeat([]int{1, 2, 3, 4, 5, 6, 7}, 2)
	m := impl.Memory{Vals: shared[:4], Arrays: [][]int{shared[:4], shared[2:6]}}
	out, events, ok := impl.SpecRun(c, m, wrongIn("1"))
	if !ok || memoryText(out) != "1 200 3 4/1 2 3 4/3 4 5 6" || eventsText(events) != "s0 s1 s2 s3 w0 s4 w4 s5 s5 s6" {
		t.Errorf("SpecRun = %s, %s, %v", memoryText(out), eventsText(events), ok)
	}
	path, ok := impl.SpecPath(c, impl.Machine{Pc: 2, Regs: shared, Mem: m})
	if !ok || eventsText(path) != "s2 s3 w2 s4 w5 s5" || numbersText(shared) != "1 2 3 4 5 6 7 1 2 3 4 5 6 7" {
		t.Errorf("SpecPath = %s, %v, and the argument is %v", eventsText(path), ok, shared)
	}
}

func TestSpeculationAtTheSameTime(t *testing.T) {
	c, m := codeIn(t, "LHU/HX", speculateCode), memoryIn("10 20 30/40 41 42 43/50 51 52 53")
	wrong := wrongIn("1101")
	out, events, _ := impl.SpecRun(c, m, wrong)
	f, _ := impl.FenceCode(c)
	want, text := memoryText(out)+" "+eventsText(events), plainCodeText(f)
	path, _ := impl.SpecPath(c, machineIn(2, ""))
	var group sync.WaitGroup
	for range 8 {
		group.Go(func() {
			for range 200 {
				out, events, ok := impl.SpecRun(c, m, wrong)
				f, fenced := impl.FenceCode(c)
				other, _ := impl.SpecPath(c, machineIn(2, ""))
				count, counted := impl.CountBranches(c, m)
				if !ok || !fenced || !counted || count != 4 || memoryText(out)+" "+eventsText(events) != want || plainCodeText(f) != text || !slices.Equal(other, path) || !impl.CodeFenced(f) {
					t.Errorf("SpecRun = %s, %s, %v and CountBranches = %d", memoryText(out), eventsText(events), ok, count)
				}
			}
		})
	}
	group.Wait()
}
