package tests

import (
	"math"
	"reflect"
	"regexp"
	"slices"
	"strconv"
	"strings"
	"sync"
	"testing"

	"loop.example/constanttime/impl"
)

// opRow states an operation as the document's table does: its name, and what each of the fields A to D is.
// The letters are r for a register, n for a value, v for a variable, a for an array, o for an operator, t for the number of an instruction and a dot for no field.
type opRow struct {
	name   string
	fields string
}

var opTable = []opRow{
	{},
	{"const", "rn.."}, {"get", "rv.."}, {"put", "vr.."}, {"load", "rar."}, {"store", "arr."}, {"bin", "rorr"}, {"select", "rrrr"},
	{"jump", "t..."}, {"zero", "rt.."}, {"loop", "rt.."}, {"release", "r..."}, {"fence", "...."}, {"halt", "...."},
}

// fieldRange returns the least and the greatest number that a field may be in an instruction of c.
func fieldRange(c impl.Code, letter byte) (int, int) {
	switch letter {
	case 'r':
		return 0, 13
	case 'n':
		return 0, 255
	case 'v':
		return 0, len(c.Vars) - 1
	case 'a':
		return 0, len(c.Arrays) - 1
	case 'o':
		return 4, 10
	case 't':
		return 0, len(c.List) - 1
	}
	return 0, 0
}

// instr returns an instruction with A, B, C and D, or the first of them.
func instr(op int, fields ...int) impl.Instr {
	in := impl.Instr{Op: op}
	for i, n := range fields {
		*fieldOf(&in, i) = n
	}
	return in
}

// fieldOf returns the field A, B, C or D, by its number.
func fieldOf(in *impl.Instr, i int) *int { return []*int{&in.A, &in.B, &in.C, &in.D}[i] }

// codeOf returns code with declarations like LH/L.
func codeOf(declared string, list ...impl.Instr) impl.Code {
	parts := strings.Split(declared, "/")
	labels := func(letters string) []int {
		var list []int
		for i := range len(letters) {
			list = append(list, strings.IndexByte("LHUX", letters[i]))
		}
		return list
	}
	return impl.Code{Vars: labels(parts[0]), Arrays: labels(parts[1]), List: list}
}

// codeIn returns the code with these declarations and with the instructions of a text, where each but the last has a semicolon and a space behind it.
func codeIn(t *testing.T, declared string, list string) impl.Code {
	t.Helper()
	text := "code " + declared + "\n" + strings.ReplaceAll(list, "; ", "\n") + "\n"
	c, ok := impl.ParseCode(text)
	if !ok || plainCodeText(c) != text {
		t.Fatalf("ParseCode(%q) = %v, %v", text, c, ok)
	}
	return c
}

// plainCodeText writes valid code.
func plainCodeText(c impl.Code) string {
	letters := func(list []int) string {
		text := ""
		for _, l := range list {
			text += "LHUX"[l : l+1]
		}
		return text
	}
	lines := []string{"code " + letters(c.Vars) + "/" + letters(c.Arrays)}
	for _, in := range c.List {
		row := opTable[in.Op]
		words := []string{row.name}
		for i := range 4 {
			if row.fields[i] != '.' {
				words = append(words, strconv.Itoa(*fieldOf(&in, i)))
			}
		}
		lines = append(lines, strings.Join(words, " "))
	}
	return strings.Join(lines, "\n") + "\n"
}

func clonedCode(c impl.Code) impl.Code {
	return impl.Code{Vars: slices.Clone(c.Vars), Arrays: slices.Clone(c.Arrays), List: slices.Clone(c.List)}
}

func clonedMachine(s impl.Machine) impl.Machine {
	return impl.Machine{Pc: s.Pc, Regs: slices.Clone(s.Regs), Mem: clonedMemory(s.Mem)}
}

func isZeroCode(c impl.Code) bool {
	return len(c.Vars) == 0 && len(c.Arrays) == 0 && len(c.List) == 0
}

func isZeroMachine(s impl.Machine) bool {
	return s.Pc == 0 && len(s.Regs) == 0 && isZeroMemory(s.Mem)
}

// machineText writes any state.
func machineText(s impl.Machine) string {
	return strconv.Itoa(s.Pc) + " | " + numbersText(s.Regs) + " | " + memoryText(s.Mem)
}

// zeroMemory returns a memory for the declarations of c in which all values are 0.
func zeroMemory(c impl.Code) impl.Memory {
	m := impl.Memory{Vals: make([]int, len(c.Vars))}
	for range c.Arrays {
		m.Arrays = append(m.Arrays, make([]int, 4))
	}
	return m
}

// zeroMachine returns a state of a machine with the code c in which everything is 0.
func zeroMachine(c impl.Code) impl.Machine {
	return impl.Machine{Regs: make([]int, 14), Mem: zeroMemory(c)}
}

// checkCode checks that c is valid and is read back from its text.
func checkCode(t *testing.T, what string, c impl.Code) {
	t.Helper()
	text := plainCodeText(c)
	if !impl.CodeValid(c) {
		t.Errorf("%s: CodeValid is false for %q", what, text)
	}
	if got := impl.FormatCode(c); got != text {
		t.Errorf("%s: FormatCode = %q, want %q", what, got, text)
	}
	back, ok := impl.ParseCode(text)
	if !ok || !impl.CodeSame(back, c) || !impl.CodeSame(c, back) || !equalLists(back.Vars, c.Vars) || !equalLists(back.Arrays, c.Arrays) || !reflect.DeepEqual(back.List, c.List) {
		t.Errorf("%s: ParseCode(%q) = %v, %v, want %v", what, text, back, ok, c)
	}
	s, started := impl.StartMachine(c, zeroMemory(c))
	if !started || machineText(s) != machineText(zeroMachine(c)) || !impl.MachineValid(c, s) {
		t.Errorf("%s: StartMachine = %v, %v", what, s, started)
	}
	if after, events, stepped := impl.StepMachine(c, s); !stepped || len(events) == 0 || !impl.MachineValid(c, after) {
		t.Errorf("%s: StepMachine = %v, %v, %v", what, after, events, stepped)
	}
}

// checkNoMachine checks the results of all functions for a state and a memory that are not those of a machine with the code c.
func checkNoMachine(t *testing.T, what string, c impl.Code, s impl.Machine) {
	t.Helper()
	if impl.MachineValid(c, s) {
		t.Errorf("%s: MachineValid is true", what)
	}
	if after, events, ok := impl.StepMachine(c, s); ok || !isZeroMachine(after) || len(events) != 0 {
		t.Errorf("%s: StepMachine = %v, %v, %v", what, after, events, ok)
	}
}

// checkNotRun checks that c does not run with the memory m.
func checkNotRun(t *testing.T, what string, c impl.Code, m impl.Memory) {
	t.Helper()
	if s, ok := impl.StartMachine(c, m); ok || !isZeroMachine(s) {
		t.Errorf("%s: StartMachine = %v, %v", what, s, ok)
	}
	if out, events, ok := impl.RunCode(c, m); ok || !isZeroMemory(out) || len(events) != 0 {
		t.Errorf("%s: RunCode = %v, %v, %v", what, out, events, ok)
	}
	s := zeroMachine(c)
	s.Mem = m
	checkNoMachine(t, what, c, s)
}

// checkInvalidCode checks the results of all functions for code that is not valid.
func checkInvalidCode(t *testing.T, what string, c impl.Code) {
	t.Helper()
	if impl.CodeValid(c) {
		t.Errorf("%s: CodeValid is true", what)
	}
	if got := impl.FormatCode(c); got != "" {
		t.Errorf("%s: FormatCode = %q", what, got)
	}
	checkNotRun(t, what, c, zeroMemory(c))
	if !impl.CodeSame(c, clonedCode(c)) {
		t.Errorf("%s: the code is not the same as itself", what)
	}
}

// checkNoCode checks that text is not the text of code.
func checkNoCode(t *testing.T, text string) {
	t.Helper()
	if c, ok := impl.ParseCode(text); ok || !isZeroCode(c) {
		t.Errorf("ParseCode(%.300q) = %v, %v", text, c, ok)
	}
}

func TestConstantsOfTheMachine(t *testing.T) {
	ops := []int{impl.OpConst, impl.OpGet, impl.OpPut, impl.OpLoad, impl.OpStore, impl.OpBin, impl.OpSelect, impl.OpJump, impl.OpZero, impl.OpLoop, impl.OpRelease, impl.OpFence, impl.OpHalt}
	if !slices.Equal(ops, []int{1, 2, 3, 4, 5, 6, 7, 8, 9, 10, 11, 12, 13}) {
		t.Errorf("the operations are %v", ops)
	}
	if others := []int{impl.EventStep, impl.MaxRegs, impl.MaxCode, impl.MaxSteps}; !slices.Equal(others, []int{5, 14, 400, 20000}) {
		t.Errorf("the further event and the limits are %v", others)
	}
}

// withInstr returns valid code with size instructions, of which number at is in, if that is valid.
func withInstr(declared string, size int, at int, in impl.Instr) impl.Code {
	c := codeOf(declared, slices.Repeat([]impl.Instr{instr(impl.OpFence)}, size)...)
	c.List[size-1] = instr(impl.OpHalt)
	c.List[at] = in
	return c
}

// leastInstr returns the instruction of an operation in which each field is the least.
func leastInstr(op int) impl.Instr {
	in := instr(op)
	for i := range 4 {
		*fieldOf(&in, i), _ = fieldRange(impl.Code{}, opTable[op].fields[i])
	}
	return in
}

func TestFieldsOfEveryOperation(t *testing.T) {
	far := []int{-2, -13, -256, 256, 300, 1 << 32, math.MaxInt, math.MinInt}
	for _, declared := range []string{"LHU/HX", "X/L", "LHUXLHUXLHUX/LL"} {
		for op := impl.OpConst; op <= impl.OpHalt; op++ {
			for i := range 4 {
				for _, size := range []int{2, 9} {
					at := size / 3
					c := withInstr(declared, size, at, leastInstr(op))
					first, last := fieldRange(c, opTable[op].fields[i])
					what := declared + " " + opTable[op].name + " field " + strconv.Itoa(i) + " = "
					for _, n := range []int{first, last} {
						*fieldOf(&c.List[at], i) = n
						checkCode(t, what+strconv.Itoa(n), c)
					}
					for _, n := range append([]int{first - 1, last + 1}, far...) {
						if first <= n && n <= last {
							continue
						}
						*fieldOf(&c.List[at], i) = n
						checkInvalidCode(t, what+strconv.Itoa(n), c)
					}
				}
			}
		}
	}
}

func TestFieldsWithoutMeaning(t *testing.T) {
	count := 0
	for op := impl.OpConst; op <= impl.OpHalt; op++ {
		for i := range 4 {
			if opTable[op].fields[i] != '.' {
				continue
			}
			count++
			for _, n := range []int{1, -1, 13, 255} {
				in := leastInstr(op)
				*fieldOf(&in, i) = n
				what := opTable[op].name + " with " + strconv.Itoa(n) + " as field " + strconv.Itoa(i)
				checkInvalidCode(t, what, withInstr("LH/LH", 5, 0, in))
				checkInvalidCode(t, what, withInstr("LH/LH", 5, 3, in))
				if op == impl.OpHalt || op == impl.OpJump {
					checkInvalidCode(t, what, withInstr("LH/LH", 5, 4, in))
				}
			}
		}
	}
	if count != 26 {
		t.Errorf("%d fields have no meaning, want 26", count)
	}
}

func TestOperationsWithoutArrays(t *testing.T) {
	for op := impl.OpConst; op <= impl.OpHalt; op++ {
		c := withInstr("L/", 3, 1, leastInstr(op))
		if op == impl.OpLoad || op == impl.OpStore {
			checkInvalidCode(t, opTable[op].name+" without arrays", c)
		} else {
			checkCode(t, opTable[op].name+" without arrays", c)
		}
	}
}

func TestNumbersThatAreNoOperation(t *testing.T) {
	for _, op := range []int{0, -1, -13, 14, 15, 255, 256, 257, 269, 1 << 32, 1<<32 + 13, math.MaxInt, math.MinInt} {
		for at := range 4 {
			checkInvalidCode(t, "operation "+strconv.Itoa(op), withInstr("L/", 4, at, instr(op)))
		}
	}
}

func TestNumberOfInstructions(t *testing.T) {
	checkInvalidCode(t, "0 instructions", codeOf("L/"))
	checkInvalidCode(t, "an empty list", impl.Code{Vars: []int{0}, List: []impl.Instr{}})
	for _, size := range []int{1, 2, 10, 11, 100, 101, 399, 400} {
		checkCode(t, strconv.Itoa(size)+" instructions", withInstr("L/", size, 0, instr(impl.OpHalt)))
		checkCode(t, "a jump to the last one", withInstr("L/", size, 0, instr(impl.OpJump, size-1)))
		checkCode(t, "a jump at the end", withInstr("L/", size, size-1, instr(impl.OpJump, size-1)))
		checkInvalidCode(t, "a jump past the end", withInstr("L/", size, 0, instr(impl.OpJump, size)))
		checkInvalidCode(t, "a last jump past the end", withInstr("L/", size, size-1, instr(impl.OpJump, size)))
	}
	for _, size := range []int{401, 402, 1000, veryDeep} {
		c := withInstr("L/", size, 0, instr(impl.OpHalt))
		checkInvalidCode(t, strconv.Itoa(size)+" instructions", c)
		checkNoCode(t, plainCodeText(impl.Code{Vars: c.Vars, List: c.List[size-401:]}))
	}
}

func TestLastInstruction(t *testing.T) {
	for op := impl.OpConst; op <= impl.OpHalt; op++ {
		for _, size := range []int{1, 2, 5, 400} {
			c := withInstr("L/L", size, size-1, leastInstr(op))
			what := opTable[op].name + " as the last of " + strconv.Itoa(size)
			if op == impl.OpHalt || op == impl.OpJump {
				checkCode(t, what, c)
			} else {
				checkInvalidCode(t, what, c)
				checkNoCode(t, plainCodeText(c))
			}
			if size < 400 {
				c.List = append(c.List, instr(impl.OpHalt))
				checkCode(t, what+" and a halt", c)
			}
		}
	}
}

// invalidCodes returns code that is not valid, each for another reason.
func invalidCodes() map[string]impl.Code {
	halt := instr(impl.OpHalt)
	rows := map[string]impl.Code{
		"nothing": {}, "no instruction": codeOf("L/"), "no operation": codeOf("L/", impl.Instr{}), "no operation in front": codeOf("L/", impl.Instr{}, halt), "no operation behind": codeOf("L/", halt, impl.Instr{}),
		"no end": codeOf("L/", instr(impl.OpFence)), "an end at the front": codeOf("L/", halt, instr(impl.OpFence)), "a branch at the end": codeOf("L/", halt, instr(impl.OpZero, 0, 0)), "a loop at the end": codeOf("L/", halt, instr(impl.OpLoop, 0, 0)),
		"401 instructions": codeOf("L/", slices.Repeat([]impl.Instr{halt}, 401)...), "register 14": codeOf("L/", instr(impl.OpConst, 14, 0), halt), "no array": codeOf("L/", instr(impl.OpLoad, 0, 0, 0), halt), "no variable": codeOf("L/", instr(impl.OpPut, 1, 0), halt),
		"a field too many": codeOf("L/", halt, impl.Instr{Op: impl.OpHalt, D: 1}), "a jump past the end": codeOf("L/", instr(impl.OpJump, 2), halt), "a read as operator": codeOf("L/L", instr(impl.OpBin, 0, 3, 0, 0), halt), "a select as operator": codeOf("L/L", instr(impl.OpBin, 0, 11, 0, 0), halt),
	}
	for what, p := range map[string]impl.Program{
		"no declarations": {}, "no variable declared": {Arrays: []int{0}}, "13 variables": {Vars: make([]int, 13)}, "very many variables": {Vars: make([]int, veryDeep)},
		"3 arrays": {Vars: []int{0}, Arrays: make([]int, 3)}, "very many arrays": {Vars: []int{0}, Arrays: make([]int, veryDeep)}, "13 variables and 3 arrays": {Vars: make([]int, 13), Arrays: make([]int, 3)},
	} {
		rows[what] = impl.Code{Vars: p.Vars, Arrays: p.Arrays, List: []impl.Instr{halt}}
	}
	return rows
}

func TestInvalidCode(t *testing.T) {
	for what, c := range invalidCodes() {
		checkInvalidCode(t, what, c)
	}
}

func TestDeclarationsOfCode(t *testing.T) {
	list := []impl.Instr{instr(impl.OpConst, 0, 1), instr(impl.OpPut, 0, 0), instr(impl.OpHalt)}
	for _, declared := range []string{"L/", "X/", "LHUX/", "LHUX/L", "LHUX/UX", "LHUXLHUXLHUX/", "LHUXLHUXLHUX/LH"} {
		checkCode(t, declared, codeOf(declared, list...))
	}
	for _, n := range notLabels {
		what := "label " + strconv.Itoa(n)
		checkInvalidCode(t, what+" of the only variable", impl.Code{Vars: []int{n}, List: list})
		checkInvalidCode(t, what+" of the first variable", impl.Code{Vars: []int{n, 0}, List: list})
		checkInvalidCode(t, what+" of the last variable", impl.Code{Vars: []int{0, 3, n}, List: list})
		checkInvalidCode(t, what+" of the first array", impl.Code{Vars: []int{0}, Arrays: []int{n, 0}, List: list})
		checkInvalidCode(t, what+" of the last array", impl.Code{Vars: []int{0}, Arrays: []int{0, n}, List: list})
	}
	for _, declared := range []string{"", "/", "//", "L", "/L", "L/LLL", "LLLLLLLLLLLLL/", "M/", "l/", "L/M", "0/", " L/", "L /", "L/ ", "L/ L", "L//", "L/L/", "L/L/L", "L|L", "L\n/L", "L/L "} {
		checkNoCode(t, "code "+declared+"\nhalt\n")
	}
}

// fullCode has each operation, and jumps over the one in the middle.
const fullCode = "code LHU/HX\nconst 0 255\nget 1 2\nput 2 1\nload 3 1 2\nstore 1 2 3\nbin 4 10 3 2\nselect 5 4 3 13\njump 9\nhalt\nzero 4 12\nloop 13 0\nrelease 5\nfence\nhalt\n"

func TestTextsOfInstructions(t *testing.T) {
	c := codeOf("LHU/HX",
		impl.Instr{Op: 1, A: 0, B: 255}, impl.Instr{Op: 2, A: 1, B: 2}, impl.Instr{Op: 3, A: 2, B: 1}, impl.Instr{Op: 4, A: 3, B: 1, C: 2}, impl.Instr{Op: 5, A: 1, B: 2, C: 3},
		impl.Instr{Op: 6, A: 4, B: 10, C: 3, D: 2}, impl.Instr{Op: 7, A: 5, B: 4, C: 3, D: 13}, impl.Instr{Op: 8, A: 9}, impl.Instr{Op: 13}, impl.Instr{Op: 9, A: 4, B: 12}, impl.Instr{Op: 10, A: 13, B: 0}, impl.Instr{Op: 11, A: 5}, impl.Instr{Op: 12}, impl.Instr{Op: 13})
	if got := impl.FormatCode(c); got != fullCode {
		t.Errorf("FormatCode = %q, want %q", got, fullCode)
	}
	checkCode(t, "all operations", c)
	for _, row := range []struct {
		in   impl.Instr
		text string
	}{
		{instr(1, 13, 0), "const 13 0"}, {instr(1, 9, 10), "const 9 10"}, {instr(2, 13, 2), "get 13 2"}, {instr(3, 0, 13), "put 0 13"}, {instr(4, 13, 0, 12), "load 13 0 12"}, {instr(5, 0, 12, 13), "store 0 12 13"},
		{instr(6, 13, 4, 12, 11), "bin 13 4 12 11"}, {instr(6, 1, 9, 2, 3), "bin 1 9 2 3"}, {instr(7, 13, 12, 11, 10), "select 13 12 11 10"}, {instr(8, 0), "jump 0"}, {instr(8, 399), "jump 399"}, {instr(9, 0, 399), "zero 0 399"}, {instr(10, 0, 10), "loop 0 10"}, {instr(11, 13), "release 13"}, {instr(12), "fence"}, {instr(13), "halt"},
	} {
		c := withInstr("LHU/HX", 400, 7, row.in)
		want := "code LHU/HX\n" + strings.Repeat("fence\n", 7) + row.text + "\n" + strings.Repeat("fence\n", 391) + "halt\n"
		if got := impl.FormatCode(c); got != want {
			t.Errorf("FormatCode does not write %q", row.text)
		}
		checkCode(t, row.text, c)
	}
}

func TestTextsOfDeclarations(t *testing.T) {
	for _, declared := range []string{"L/", "X/", "LHUX/", "H/L", "LHUXLHUXLHUX/XU"} {
		want := "code " + declared + "\nhalt\n"
		if got := impl.FormatCode(codeOf(declared, instr(impl.OpHalt))); got != want {
			t.Errorf("FormatCode = %q, want %q", got, want)
		}
	}
	for _, declared := range []string{"/", "/L", "/LH"} {
		if got := impl.FormatCode(codeOf(declared, instr(impl.OpHalt))); got != "" {
			t.Errorf("FormatCode without variables = %q", got)
		}
		checkNoCode(t, "code "+declared+"\nhalt\n")
	}
	if got := impl.FormatCode(impl.Code{List: []impl.Instr{instr(impl.OpHalt)}}); got != "" {
		t.Errorf("FormatCode without declarations = %q", got)
	}
}

func TestPrefixesOfTheTextOfCode(t *testing.T) {
	full, ok := impl.ParseCode(fullCode)
	if !ok {
		t.Fatal("ParseCode does not accept the text of every operation")
	}
	accepted := map[string]bool{}
	for size := range len(full.List) + 1 {
		c := impl.Code{Vars: full.Vars, Arrays: full.Arrays, List: full.List[:size]}
		accepted[plainCodeText(c)] = size == len(full.List)
	}
	// A prefix can be code itself where the jumps in it stay in it.
	short := "code LH/\njump 0\nzero 1 2\nhalt\nhalt\njump 1\n"
	for _, lines := range []int{2, 4, 5, 6} {
		accepted[strings.Join(strings.SplitAfter(short, "\n")[:lines], "")] = true
	}
	for _, text := range []string{fullCode, short} {
		for end := range len(text) + 1 {
			prefix := text[:end]
			if !accepted[prefix] {
				checkNoCode(t, prefix)
			} else if c, ok := impl.ParseCode(prefix); !ok || plainCodeText(c) != prefix {
				t.Errorf("ParseCode(%q) = %v, %v", prefix, c, ok)
			}
			if end > 0 {
				checkNoCode(t, text[end:])
			}
		}
	}
}

func TestNumbersInTheTextOfCode(t *testing.T) {
	for _, at := range regexp.MustCompile(`\d+`).FindAllStringIndex(fullCode, -1) {
		before, n, behind := fullCode[:at[0]], fullCode[at[0]:at[1]], fullCode[at[1]:]
		for _, wrong := range []string{"0" + n, "00" + n, "+" + n, "-" + n, "-0", "-1", n + "000", n + ".0", n + "e0", "0x" + n, n + "_0", "1_" + n, n + "a", "a", "256", "1000", "4294967296", "18446744073709551616", "18446744073709551617", "99999999999999999999", "", " ", " " + n, n + " ", n + "\t", n + "\r", "\uff11", "\u0661", "'0'"} {
			checkNoCode(t, before+wrong+behind)
		}
	}
	for _, line := range []string{"const 14 0", "const 0 256", "get 14 0", "get 0 2", "put 2 0", "put 0 14", "load 14 0 0", "load 0 1 0", "load 0 0 14", "store 1 0 0", "store 0 14 0", "store 0 0 14", "bin 14 4 0 0", "bin 0 3 0 0", "bin 0 11 0 0", "bin 0 4 14 0", "bin 0 4 0 14", "select 14 0 0 0", "select 0 14 0 0", "select 0 0 14 0", "select 0 0 0 14", "jump 2", "zero 14 0", "zero 0 2", "loop 14 0", "loop 0 2", "release 14"} {
		checkNoCode(t, "code LH/L\n"+line+"\nhalt\n")
	}
}

func TestBlanksInTheTextOfCode(t *testing.T) {
	for at := range len(fullCode) {
		before, c, behind := fullCode[:at], fullCode[at:at+1], fullCode[at+1:]
		if c != " " && c != "\n" {
			continue
		}
		checkNoCode(t, before+behind)
		for _, wrong := range []string{c + c, " \n", "\n ", "\t", "\r\n", "\n\r", "\r", "\v", "\x00", "\u00a0", "\u2028", ";", ","} {
			checkNoCode(t, before+wrong+behind)
		}
	}
	for _, extra := range []string{" ", "\n", "\t", "\x00", "\ufeff", "code", "code L/\n", "halt\n"} {
		checkNoCode(t, extra+fullCode)
		if extra != "halt\n" {
			checkNoCode(t, fullCode+extra)
		}
	}
	checkNoCode(t, strings.TrimSuffix(fullCode, "\n"))
	checkNoCode(t, fullCode+fullCode)
	checkNoCode(t, strings.ReplaceAll(fullCode, "\n", "\r\n"))
}

func TestLinesOfTheTextOfCode(t *testing.T) {
	lines := strings.SplitAfter(fullCode, "\n")
	lines = lines[:len(lines)-1]
	changed := func(at int, line string) string {
		list := slices.Clone(lines)
		list[at] = line
		return strings.Join(list, "")
	}
	for at, line := range lines {
		text := strings.TrimSuffix(line, "\n")
		// A field too many, and a field too few where there is one.
		checkNoCode(t, changed(at, text+" 0\n"))
		checkNoCode(t, changed(at, text+" 1 2\n"))
		if last := strings.LastIndexByte(text, ' '); last > 0 {
			checkNoCode(t, changed(at, text[:last]+"\n"))
			checkNoCode(t, changed(at, text[:last]+" \n"))
		}
		name, _, _ := strings.Cut(text, " ")
		for _, wrong := range []string{"", "x", "nop", strings.ToUpper(name), strings.ToUpper(name[:1]) + name[1:], name[1:], name[:len(name)-1], name + "s", name + name, " " + name, "op" + name, "0", "13"} {
			checkNoCode(t, changed(at, wrong+text[len(name):]+"\n"))
		}
	}
	checkNoCode(t, changed(0, ""))
	checkNoCode(t, changed(0, lines[0]+lines[0]))
	checkNoCode(t, changed(0, lines[1]+lines[0]))
	for _, text := range []string{"", "\n", "code", "code\n", "code \n", "code L/", "code L/\n", "code L/\n\n", "code L/\nhalt", "halt\n", "L/\nhalt\n", "code L/ halt\n", "code L/\nhalt\nfence\n"} {
		checkNoCode(t, text)
	}
}

func TestChangedTextsOfCodeAreReadBack(t *testing.T) {
	accepted := 0
	check := func(text string) {
		c, ok := impl.ParseCode(text)
		if ok {
			accepted++
		}
		if ok && (impl.FormatCode(c) != text || plainCodeText(c) != text) || !ok && !isZeroCode(c) {
			t.Errorf("ParseCode(%q) = %v, %v", text, c, ok)
		}
	}
	for at := range len(fullCode) {
		check(fullCode[:at] + fullCode[at+1:])
		for c := range 256 {
			changed := string([]byte{byte(c)})
			check(fullCode[:at] + changed + fullCode[at+1:])
			check(fullCode[:at] + changed + fullCode[at:])
		}
		for other := range len(fullCode) {
			check(fullCode[:at] + fullCode[other:])
		}
	}
	if accepted < 100 {
		t.Errorf("only %d changed texts were accepted", accepted)
	}
}

func TestVeryLongTextsOfCode(t *testing.T) {
	checkNoCode(t, "code L/\n"+strings.Repeat("halt\n", veryDeep))
	checkNoCode(t, "code "+strings.Repeat("L", veryDeep)+"/\nhalt\n")
	checkNoCode(t, "code L/"+strings.Repeat("L", veryDeep)+"\nhalt\n")
	checkNoCode(t, "code L/\njump "+strings.Repeat("0", veryDeep)+"\n")
	checkNoCode(t, "code L/\njump "+strings.Repeat("9", veryDeep)+"\n")
	checkNoCode(t, "code L/\nhalt"+strings.Repeat(" ", veryDeep)+"\n")
	checkNoCode(t, strings.Repeat("\n", veryDeep))
}

// someInstr returns a valid instruction of c. Targets are mostly behind place at, so that the code often halts.
func (s *source) someInstr(c impl.Code, at int, op int) impl.Instr {
	in := instr(op)
	for i := range 4 {
		letter := opTable[op].fields[i]
		first, last := fieldRange(c, letter)
		switch {
		case letter == 'r' && s.below(4) > 0:
			last = 4
		case letter == 't' && at < last && s.below(op) > 0:
			first = at + 1
		}
		*fieldOf(&in, i) = first + s.below(last-first+1)
	}
	return in
}

// someCode returns valid code with at most that many instructions.
func (s *source) someCode(size int) impl.Code {
	c := impl.Code{Vars: make([]int, 1+s.below(12)), Arrays: make([]int, s.below(3)), List: make([]impl.Instr, 1+s.below(size))}
	for _, labels := range [][]int{c.Vars, c.Arrays} {
		for i := range labels {
			labels[i] = s.below(4)
		}
	}
	for at := range c.List {
		op := 1 + s.below(13)
		for op == impl.OpHalt && s.below(4) > 0 || len(c.Arrays) == 0 && (op == impl.OpLoad || op == impl.OpStore) {
			op = 1 + s.below(13)
		}
		if at == len(c.List)-1 {
			op = []int{impl.OpHalt, impl.OpHalt, impl.OpJump}[s.below(3)]
		}
		c.List[at] = s.someInstr(c, at, op)
	}
	return c
}

// someMachine returns a state of a machine with the code c.
func (s *source) someMachine(c impl.Code) impl.Machine {
	x := impl.Machine{Pc: s.below(len(c.List)), Regs: make([]int, 14), Mem: s.someMemory(impl.Program{Vars: c.Vars, Arrays: c.Arrays})}
	for i := range x.Regs {
		x.Regs[i] = s.below([]int{2, 6, 256}[s.below(3)])
	}
	return x
}

func TestCodeIsReadBack(t *testing.T) {
	numbers := source(61)
	seen := map[string]impl.Code{}
	for range 2000 {
		c := numbers.someCode(30)
		checkCode(t, "some code", c)
		text := impl.FormatCode(c)
		if other, ok := seen[text]; ok && !reflect.DeepEqual(c, other) {
			t.Errorf("two codes have the text %q", text)
		}
		seen[text] = c
	}
	if len(seen) < 1000 {
		t.Errorf("only %d codes were tried", len(seen))
	}
}

// changedCodes returns code that differs from c in one place.
func changedCodes(c impl.Code) []impl.Code {
	var list []impl.Code
	add := func(change func(d *impl.Code)) {
		d := clonedCode(c)
		change(&d)
		list = append(list, d)
	}
	for _, labels := range []func(d *impl.Code) *[]int{func(d *impl.Code) *[]int { return &d.Vars }, func(d *impl.Code) *[]int { return &d.Arrays }} {
		for i := range *labels(&c) {
			add(func(d *impl.Code) { (*labels(d))[i]++ })
			add(func(d *impl.Code) { (*labels(d))[i] -= 100 })
		}
		add(func(d *impl.Code) { *labels(d) = append(*labels(d), 0) })
		add(func(d *impl.Code) { *labels(d) = nil })
		add(func(d *impl.Code) { *labels(d) = (*labels(d))[:len(*labels(d))-1] })
		add(func(d *impl.Code) { *labels(d) = (*labels(d))[1:] })
	}
	for at := range c.List {
		add(func(d *impl.Code) { d.List[at].Op++ })
		add(func(d *impl.Code) { d.List[at].Op -= 100 })
		for i := range 4 {
			add(func(d *impl.Code) { *fieldOf(&d.List[at], i)++ })
			add(func(d *impl.Code) { *fieldOf(&d.List[at], i) += 1 << 32 })
		}
	}
	add(func(d *impl.Code) { d.List = append(d.List, impl.Instr{}) })
	add(func(d *impl.Code) { d.List = append([]impl.Instr{{}}, d.List...) })
	add(func(d *impl.Code) { d.List = d.List[:len(d.List)-1] })
	add(func(d *impl.Code) { d.List = d.List[1:] })
	add(func(d *impl.Code) { d.List = nil })
	add(func(d *impl.Code) { slices.Reverse(d.List) })
	return list
}

func TestSameCode(t *testing.T) {
	valid, ok := impl.ParseCode(fullCode)
	if !ok {
		t.Fatal("ParseCode does not accept the text of every operation")
	}
	wrong := impl.Code{Vars: []int{7, -1}, Arrays: []int{9, 8, 5}, List: []impl.Instr{{Op: 99, A: -1, B: math.MaxInt, C: 3, D: 4}, {}, {Op: 1, D: 2}}}
	for _, c := range []impl.Code{valid, wrong} {
		if !impl.CodeSame(c, c) || !impl.CodeSame(c, clonedCode(c)) {
			t.Errorf("CodeSame tells %v from itself", c)
		}
		for _, d := range changedCodes(c) {
			if impl.CodeSame(c, d) || impl.CodeSame(d, c) {
				t.Errorf("CodeSame does not tell %v from %v", c, d)
			}
			if !impl.CodeSame(d, clonedCode(d)) {
				t.Errorf("CodeSame tells %v from itself", d)
			}
		}
	}
	empty := impl.Code{Vars: []int{}, Arrays: []int{}, List: []impl.Instr{}}
	if !impl.CodeSame(empty, impl.Code{}) || !impl.CodeSame(impl.Code{}, empty) || !impl.CodeSame(impl.Code{}, impl.Code{}) {
		t.Error("CodeSame tells nil from empty")
	}
	if impl.CodeSame(impl.Code{Vars: []int{0}}, impl.Code{Arrays: []int{0}}) || impl.CodeSame(impl.Code{Vars: []int{0}}, impl.Code{}) || impl.CodeSame(impl.Code{List: make([]impl.Instr, 1)}, impl.Code{}) {
		t.Error("CodeSame does not tell a list from none")
	}
}

func TestInvalidCodesAreTheSame(t *testing.T) {
	all := invalidCodes()
	for first, c := range all {
		for second, d := range all {
			want := equalLists(c.Vars, d.Vars) && equalLists(c.Arrays, d.Arrays) && slices.Equal(c.List, d.List)
			if got := impl.CodeSame(c, d); got != want {
				t.Errorf("CodeSame of %s and %s = %v", first, second, got)
			}
		}
	}
}

// machineIn returns a state with that Pc, where register i is 100+i unless the text says otherwise, and a memory of LHU/HX.
func machineIn(pc int, regs string) impl.Machine {
	s := impl.Machine{Pc: pc, Mem: memoryIn("10 20 30/40 41 42 43/50 51 52 53")}
	for i := range 14 {
		s.Regs = append(s.Regs, 100+i)
	}
	setRegs(s, regs)
	return s
}

// setRegs sets registers from a text like 0=5 13=255.
func setRegs(s impl.Machine, text string) {
	for word := range strings.FieldsSeq(text) {
		number, value, _ := strings.Cut(word, "=")
		s.Regs[numbersIn(number)[0]] = numbersIn(value)[0]
	}
}

// changedMachines returns states that differ from s in one place.
func changedMachines(s impl.Machine) []impl.Machine {
	var list []impl.Machine
	add := func(change func(x *impl.Machine)) {
		x := clonedMachine(s)
		change(&x)
		list = append(list, x)
	}
	for _, numbers := range append([]func(x *impl.Machine) *[]int{func(x *impl.Machine) *[]int { return &x.Regs }, func(x *impl.Machine) *[]int { return &x.Mem.Vals }}, arraysOf(s)...) {
		for i := range *numbers(&s) {
			add(func(x *impl.Machine) { (*numbers(x))[i]++ })
			add(func(x *impl.Machine) { (*numbers(x))[i] += 1 << 32 })
		}
		add(func(x *impl.Machine) { *numbers(x) = append(*numbers(x), 0) })
		add(func(x *impl.Machine) { *numbers(x) = (*numbers(x))[:len(*numbers(x))-1] })
		add(func(x *impl.Machine) { *numbers(x) = (*numbers(x))[1:] })
		add(func(x *impl.Machine) { *numbers(x) = nil })
	}
	add(func(x *impl.Machine) { x.Pc++ })
	add(func(x *impl.Machine) { x.Pc = -1 })
	add(func(x *impl.Machine) { x.Pc = math.MinInt })
	add(func(x *impl.Machine) { x.Mem.Arrays = append(x.Mem.Arrays, nil) })
	add(func(x *impl.Machine) { x.Mem.Arrays = x.Mem.Arrays[:len(x.Mem.Arrays)-1] })
	add(func(x *impl.Machine) { x.Mem.Arrays = nil })
	add(func(x *impl.Machine) { x.Mem = impl.Memory{} })
	add(func(x *impl.Machine) { slices.Reverse(x.Mem.Arrays) })
	return list
}

// arraysOf returns functions that find each array in a state like s.
func arraysOf(s impl.Machine) []func(x *impl.Machine) *[]int {
	var list []func(x *impl.Machine) *[]int
	for a := range s.Mem.Arrays {
		list = append(list, func(x *impl.Machine) *[]int { return &x.Mem.Arrays[a] })
	}
	return list
}

func TestSameMachines(t *testing.T) {
	wrong := impl.Machine{Pc: -7, Regs: []int{1000, -1}, Mem: memoryIn("-1 999/3/4 5 6 7 8")}
	for _, s := range []impl.Machine{machineIn(3, ""), machineIn(0, "0=255 13=0"), wrong} {
		if !impl.MachineSame(s, s) || !impl.MachineSame(s, clonedMachine(s)) {
			t.Errorf("MachineSame tells %s from itself", machineText(s))
		}
		for _, x := range changedMachines(s) {
			if impl.MachineSame(s, x) || impl.MachineSame(x, s) {
				t.Errorf("MachineSame does not tell %s from %s", machineText(s), machineText(x))
			}
			if !impl.MachineSame(x, clonedMachine(x)) {
				t.Errorf("MachineSame tells %s from itself", machineText(x))
			}
		}
	}
	empty := impl.Machine{Regs: []int{}, Mem: impl.Memory{Vals: []int{}, Arrays: [][]int{}}}
	if !impl.MachineSame(empty, impl.Machine{}) || !impl.MachineSame(impl.Machine{}, empty) || impl.MachineSame(impl.Machine{}, impl.Machine{Pc: 1}) || impl.MachineSame(impl.Machine{Regs: []int{0}}, impl.Machine{Mem: impl.Memory{Vals: []int{0}}}) {
		t.Error("MachineSame tells nil from empty, or does not tell the fields apart")
	}
}

func TestStartedMachines(t *testing.T) {
	for _, row := range [][2]string{{"L/", "7"}, {"LHUX/", "0 1 254 255"}, {"LH/L", "1 2/3 4 5 6"}, {"L/HX", "255/0 255 0 255/1 2 3 4"}, {"LHUXLHUXLHUX/HU", "1 2 3 4 5 6 7 8 9 10 11 12/0 255 0 255/1 2 3 4"}} {
		for _, list := range []string{"halt", "jump 0", "const 5 9; put 0 5; halt"} {
			c := codeIn(t, row[0], list)
			s, ok := impl.StartMachine(c, memoryIn(row[1]))
			if want := "0 | 0 0 0 0 0 0 0 0 0 0 0 0 0 0 | " + row[1]; !ok || machineText(s) != want || !impl.MachineValid(c, s) {
				t.Errorf("StartMachine = %s, %v, want %s", machineText(s), ok, want)
			}
		}
	}
}

func TestMemoriesThatAreNotOfTheCode(t *testing.T) {
	for text, list := range invalidMemories() {
		p := parsed(t, text)
		c := impl.Code{Vars: p.Vars, Arrays: p.Arrays, List: []impl.Instr{instr(impl.OpHalt)}}
		checkCode(t, text, c)
		for _, m := range list {
			checkNotRun(t, m+" for "+text, c, memoryIn(m))
		}
	}
	c := codeIn(t, "LHU/HX", "halt")
	for _, n := range []int{-1, 256, 257, -255, 511, 1 << 32, math.MaxInt, math.MinInt} {
		m := memoryIn("10 20 30/40 41 42 43/50 51 52 53")
		for _, numbers := range append([][]int{m.Vals}, m.Arrays...) {
			for i, old := range numbers {
				numbers[i] = n
				checkNotRun(t, "value "+strconv.Itoa(n), c, m)
				numbers[i] = old
			}
		}
	}
	checkNotRun(t, "no memory", c, impl.Memory{})
	checkNotRun(t, "very many values", c, impl.Memory{Vals: make([]int, veryDeep), Arrays: make([][]int, veryDeep)})
	// The registers of a machine are not part of a memory.
	checkNotRun(t, "14 values", c, impl.Memory{Vals: make([]int, 14), Arrays: [][]int{{1, 2, 3, 4}, {1, 2, 3, 4}}})
}

func TestValidMachines(t *testing.T) {
	c := codeIn(t, "LHU/HX", "fence; fence; halt; jump 0")
	for pc := range 4 {
		for _, n := range []int{0, 1, 128, 255} {
			s := machineIn(pc, "")
			for _, numbers := range append([][]int{s.Regs, s.Mem.Vals}, s.Mem.Arrays...) {
				for i := range numbers {
					numbers[i] = n
				}
			}
			if !impl.MachineValid(c, s) {
				t.Errorf("MachineValid is false for %s", machineText(s))
			}
			if _, _, ok := impl.StepMachine(c, s); !ok {
				t.Errorf("StepMachine is false for %s", machineText(s))
			}
		}
	}
}

// brokenMachines returns states of which one field does not fit code with LHU/HX and 4 instructions.
func brokenMachines() map[string]impl.Machine {
	rows := map[string]impl.Machine{"the zero state": {}}
	add := func(what string, change func(s *impl.Machine)) {
		s := machineIn(2, "")
		change(&s)
		rows[what] = s
	}
	for _, n := range []int{-1, -2, 4, 5, 399, 400, 1 << 32, math.MaxInt, math.MinInt} {
		add("Pc "+strconv.Itoa(n), func(s *impl.Machine) { s.Pc = n })
	}
	for _, n := range []int{0, 1, 13, 15, 28, veryDeep} {
		add(strconv.Itoa(n)+" registers", func(s *impl.Machine) { s.Regs = make([]int, n) })
		add(strconv.Itoa(n)+" variables", func(s *impl.Machine) { s.Mem.Vals = make([]int, n) })
	}
	for _, n := range []int{-1, 256, 257, -256, 1 << 32, math.MaxInt, math.MinInt} {
		for i, numbers := range append([]func(x *impl.Machine) *[]int{func(x *impl.Machine) *[]int { return &x.Regs }, func(x *impl.Machine) *[]int { return &x.Mem.Vals }}, arraysOf(machineIn(0, ""))...) {
			s := machineIn(0, "")
			for k := range *numbers(&s) {
				add("value "+strconv.Itoa(n)+" at "+strconv.Itoa(k)+" of list "+strconv.Itoa(i), func(s *impl.Machine) { (*numbers(s))[k] = n })
			}
		}
	}
	add("no array", func(s *impl.Machine) { s.Mem.Arrays = nil })
	add("one array", func(s *impl.Machine) { s.Mem.Arrays = s.Mem.Arrays[:1] })
	add("three arrays", func(s *impl.Machine) { s.Mem.Arrays = append(s.Mem.Arrays, make([]int, 4)) })
	add("3 elements", func(s *impl.Machine) { s.Mem.Arrays[0] = s.Mem.Arrays[0][:3] })
	add("5 elements", func(s *impl.Machine) { s.Mem.Arrays[1] = append(s.Mem.Arrays[1], 0) })
	add("no elements", func(s *impl.Machine) { s.Mem.Arrays[1] = nil })
	return rows
}

func TestBrokenMachines(t *testing.T) {
	c := codeIn(t, "LHU/HX", "const 0 1; load 1 0 2; halt; jump 0")
	if !impl.MachineValid(c, machineIn(2, "")) {
		t.Error("MachineValid is false for a state that is not broken")
	}
	for what, s := range brokenMachines() {
		checkNoMachine(t, what, c, s)
	}
}

func TestMachinesOfInvalidCode(t *testing.T) {
	for what, c := range invalidCodes() {
		checkNoMachine(t, what, c, zeroMachine(c))
		checkNoMachine(t, what, c, machineIn(0, ""))
		checkNoMachine(t, what, c, impl.Machine{})
	}
	// A field that is not valid makes the code invalid, even where it is not executed.
	c := codeOf("LHU/HX", instr(impl.OpFence), instr(impl.OpConst, 0, 256), instr(impl.OpHalt))
	for pc := range 3 {
		checkNoMachine(t, "a value 256 in the code", c, machineIn(pc, ""))
	}
}

// stepRow is a step of the instruction with a text, which has the number 2 in code of seven instructions with LHU/HX.
// Registers are 100 plus their number unless the row says otherwise, and memory is 10 20 30/40 41 42 43/50 51 52 53; regs and memory are what changes.
// The execution continues at the next instruction unless pc is not 0. The events are those behind the one of the step.
type stepRow struct {
	line   string
	before string
	after  string
	memory string
	pc     string
	events string
}

// checkStep checks a step and its events.
func checkStep(t *testing.T, row stepRow) {
	t.Helper()
	c := codeIn(t, "LHU/HX", "fence; fence; "+row.line+"; fence; fence; fence; halt")
	before := machineIn(2, row.before)
	want := clonedMachine(before)
	setRegs(want, row.after)
	if row.memory != "" {
		want.Mem = memoryIn(row.memory)
	}
	want.Pc = 3
	if row.pc != "" {
		want.Pc = numbersIn(row.pc)[0]
	}
	kept := machineText(before)
	after, events, ok := impl.StepMachine(c, before)
	if !ok || machineText(after) != machineText(want) || !impl.MachineSame(after, want) || !impl.MachineValid(c, after) {
		t.Errorf("%s with %q: StepMachine = %s, %v, want %s", row.line, row.before, machineText(after), ok, machineText(want))
	}
	if got := plainTrace(events); got != strings.TrimSpace("5:2 "+row.events) {
		t.Errorf("%s with %q: the events are %s, want 5:2 %s", row.line, row.before, got, row.events)
	}
	if machineText(before) != kept {
		t.Errorf("%s: StepMachine changed the state to %s", row.line, machineText(before))
	}
}

func TestSteps(t *testing.T) {
	for _, row := range []stepRow{
		{"const 3 7", "", "3=7", "", "", ""}, {"const 0 0", "", "0=0", "", "", ""}, {"const 13 255", "", "13=255", "", "", ""}, {"const 5 105", "", "", "", "", ""},
		{"get 0 0", "", "0=10", "", "", ""}, {"get 13 2", "", "13=30", "", "", ""}, {"get 1 1", "", "1=20", "", "", ""}, {"get 2 1", "2=20", "", "", "", ""},
		{"put 0 0", "", "", "100 20 30/40 41 42 43/50 51 52 53", "", ""}, {"put 2 13", "", "", "10 20 113/40 41 42 43/50 51 52 53", "", ""}, {"put 1 2", "2=0", "", "10 0 30/40 41 42 43/50 51 52 53", "", ""}, {"put 0 1", "1=255", "", "255 20 30/40 41 42 43/50 51 52 53", "", ""},
		{"load 3 0 4", "4=0", "3=40", "", "", "2:0"}, {"load 3 0 4", "4=3", "3=43", "", "", "2:3"}, {"load 3 0 4", "4=4", "3=40", "", "", "2:0"}, {"load 3 1 4", "4=0", "3=50", "", "", "2:4"}, {"load 3 1 4", "4=255", "3=53", "", "", "2:7"}, {"load 3 1 4", "4=6", "3=52", "", "", "2:6"},
		{"load 0 1 0", "0=1", "0=51", "", "", "2:5"}, {"load 13 0 13", "13=254", "13=42", "", "", "2:2"}, {"load 13 0 0", "", "13=40", "", "", "2:0"},
		{"store 0 1 2", "1=0", "", "10 20 30/102 41 42 43/50 51 52 53", "", "3:0"}, {"store 0 1 2", "1=3 2=255", "", "10 20 30/40 41 42 255/50 51 52 53", "", "3:3"}, {"store 0 1 2", "1=4 2=0", "", "10 20 30/0 41 42 43/50 51 52 53", "", "3:0"}, {"store 1 1 2", "1=5 2=9", "", "10 20 30/40 41 42 43/50 9 52 53", "", "3:5"}, {"store 1 1 2", "1=255", "", "10 20 30/40 41 42 43/50 51 52 102", "", "3:7"}, {"store 1 13 0", "13=2", "", "10 20 30/40 41 42 43/50 51 100 53", "", "3:6"},
		{"store 0 5 5", "5=6", "", "10 20 30/40 41 6 43/50 51 52 53", "", "3:2"}, {"store 1 0 1", "0=0 1=50", "", "", "", "3:4"},
		{"bin 3 4 1 2", "1=200 2=100", "3=44", "", "", ""}, {"bin 3 5 1 2", "1=1 2=2", "3=255", "", "", ""}, {"bin 3 5 2 1", "1=1 2=2", "3=1", "", "", ""}, {"bin 3 6 1 2", "1=16 2=17", "3=16", "", "", ""}, {"bin 3 7 1 2", "1=12 2=10", "3=8", "", "", ""}, {"bin 3 8 1 2", "1=12 2=10", "3=6", "", "", ""}, {"bin 3 9 1 2", "1=12 2=12", "3=1", "", "", ""}, {"bin 3 9 1 2", "1=12 2=10", "3=0", "", "", ""}, {"bin 3 10 1 2", "1=10 2=12", "3=1", "", "", ""}, {"bin 3 10 1 2", "1=12 2=10", "3=0", "", "", ""}, {"bin 3 10 1 2", "1=12 2=12", "3=0", "", "", ""},
		{"bin 0 5 0 13", "0=3", "0=146", "", "", ""}, {"bin 13 5 0 13", "0=3", "13=146", "", "", ""}, {"bin 7 4 7 7", "7=255", "7=254", "", "", ""}, {"bin 7 8 7 7", "", "7=0", "", "", ""},
		{"select 3 4 5 6", "4=0", "3=106", "", "", ""}, {"select 3 4 5 6", "4=1", "3=105", "", "", ""}, {"select 3 4 5 6", "4=255", "3=105", "", "", ""}, {"select 3 4 5 6", "4=2", "3=105", "", "", ""}, {"select 3 4 5 6", "4=128", "3=105", "", "", ""}, {"select 3 4 5 6", "4=1 5=0", "3=0", "", "", ""},
		{"select 4 4 5 6", "4=0", "4=106", "", "", ""}, {"select 4 4 5 6", "4=1", "4=105", "", "", ""}, {"select 13 0 0 13", "0=0", "13=113", "", "", ""}, {"select 13 0 0 13", "", "13=100", "", "", ""}, {"select 0 1 2 0", "1=0", "", "", "", ""}, {"select 3 4 4 5", "4=0", "3=105", "", "", ""},
		{"jump 0", "", "", "", "0", ""}, {"jump 2", "", "", "", "2", ""}, {"jump 3", "", "", "", "3", ""}, {"jump 6", "", "", "", "6", ""},
		{"zero 4 0", "4=0", "", "", "0", ""}, {"zero 4 0", "4=1", "", "", "", ""}, {"zero 4 0", "4=255", "", "", "", ""}, {"zero 4 6", "4=0", "", "", "6", ""}, {"zero 4 6", "4=1", "", "", "", ""}, {"zero 4 2", "4=0", "", "", "2", ""}, {"zero 4 2", "4=1", "", "", "", ""}, {"zero 4 3", "4=0", "", "", "3", ""}, {"zero 4 3", "4=1", "", "", "3", ""}, {"zero 0 5", "0=0", "", "", "5", ""}, {"zero 13 5", "13=0", "", "", "5", ""}, {"zero 13 5", "4=0", "", "", "", ""},
		{"loop 4 0", "4=0", "4=255", "", "0", ""}, {"loop 4 0", "4=1", "4=0", "", "", ""}, {"loop 4 0", "4=2", "4=1", "", "0", ""}, {"loop 4 0", "4=3", "4=2", "", "0", ""}, {"loop 4 0", "4=255", "4=254", "", "0", ""}, {"loop 4 6", "4=0", "4=255", "", "6", ""}, {"loop 4 6", "4=1", "4=0", "", "", ""}, {"loop 4 6", "4=2", "4=1", "", "6", ""}, {"loop 4 2", "4=0", "4=255", "", "2", ""}, {"loop 4 2", "4=1", "4=0", "", "", ""}, {"loop 4 2", "4=2", "4=1", "", "2", ""}, {"loop 4 3", "4=1", "4=0", "", "3", ""}, {"loop 13 1", "", "13=112", "", "1", ""}, {"loop 0 1", "0=1", "0=0", "", "", ""},
		{"release 0", "", "", "", "", "4:100"}, {"release 13", "", "", "", "", "4:113"}, {"release 5", "5=0", "", "", "", "4:0"}, {"release 5", "5=255", "", "", "", "4:255"},
		{"fence", "", "", "", "", ""}, {"fence", "0=0 1=1 2=255", "", "", "", ""}, {"halt", "", "", "", "2", ""}, {"halt", "0=0 1=1 2=255", "", "", "2", ""},
	} {
		checkStep(t, row)
	}
}

func TestStepsOfOperators(t *testing.T) {
	edges := []int{0, 1, 2, 3, 15, 16, 17, 100, 127, 128, 129, 200, 253, 254, 255}
	for kind := impl.ExprAdd; kind <= impl.ExprLess; kind++ {
		line := "bin 9 " + strconv.Itoa(kind) + " 3 12"
		own := "bin 3 " + strconv.Itoa(kind) + " 3 3"
		for _, a := range edges {
			for _, b := range edges {
				want := int(plainOperation(kind, byte(a), byte(b)))
				checkStep(t, stepRow{line: line, before: "3=" + strconv.Itoa(a) + " 12=" + strconv.Itoa(b), after: "9=" + strconv.Itoa(want)})
			}
			want := int(plainOperation(kind, byte(a), byte(a)))
			checkStep(t, stepRow{line: own, before: "3=" + strconv.Itoa(a), after: "3=" + strconv.Itoa(want)})
		}
	}
}

func TestStepsAtEveryIndex(t *testing.T) {
	for index := range 256 {
		before := "4=" + strconv.Itoa(index)
		for a := range 2 {
			array, address := strconv.Itoa(a), strconv.Itoa(4*a+index%4)
			element := strconv.Itoa(40 + 10*a + index%4)
			checkStep(t, stepRow{line: "load 3 " + array + " 4", before: before, after: "3=" + element, events: "2:" + address})
			memory := strings.Replace("10 20 30/40 41 42 43/50 51 52 53", element, "103", 1)
			checkStep(t, stepRow{line: "store " + array + " 4 3", before: before, memory: memory, events: "3:" + address})
		}
		zero, loop := stepRow{line: "zero 4 6", before: before}, stepRow{line: "loop 4 6", before: before, pc: "6", after: "4=" + strconv.Itoa((index+255)%256)}
		choice := stepRow{line: "select 3 4 5 6", before: before, after: "3=105"}
		switch index {
		case 0:
			zero.pc, choice.after = "6", "3=106"
		case 1:
			loop.pc = ""
		}
		checkStep(t, zero)
		checkStep(t, loop)
		checkStep(t, choice)
		checkStep(t, stepRow{line: "release 4", before: before, events: "4:" + strconv.Itoa(index)})
		checkStep(t, stepRow{line: "const 4 " + strconv.Itoa(index), after: before})
	}
}

func TestNumbersOfSteps(t *testing.T) {
	for _, at := range []int{0, 1, 9, 10, 254, 255, 256, 257, 398, 399} {
		for _, row := range []struct{ line, events string }{{"halt", ""}, {"jump 399", ""}, {"load 0 1 3", " 2:5"}, {"store 0 3 1", " 3:1"}, {"release 3", " 4:1"}, {"fence", ""}, {"zero 3 0", ""}, {"loop 3 0", ""}} {
			if at == 399 && row.line != "halt" && row.line != "jump 399" {
				continue
			}
			lines := slices.Repeat([]string{"fence"}, 400)
			lines[399] = "halt"
			lines[at] = row.line
			_, events, ok := impl.StepMachine(codeIn(t, "LHU/HX", strings.Join(lines, "; ")), machineIn(at, "3=1"))
			if want := "5:" + strconv.Itoa(at) + row.events; !ok || plainTrace(events) != want {
				t.Errorf("%s as instruction %d has the events %s, %v, want %s", row.line, at, plainTrace(events), ok, want)
			}
		}
	}
}

func TestHaltStays(t *testing.T) {
	for _, list := range []string{"halt", "fence; halt; fence; halt", "jump 1; halt; jump 0"} {
		c := codeIn(t, "LHU/HX", list)
		for pc, in := range c.List {
			if in.Op != impl.OpHalt {
				continue
			}
			s := machineIn(pc, "0=0 1=1")
			for range 3 {
				after, events, ok := impl.StepMachine(c, s)
				if !ok || !impl.MachineSame(after, s) || plainTrace(events) != "5:"+strconv.Itoa(pc) {
					t.Errorf("a halt at %d leads to %s with %s, %v", pc, machineText(after), plainTrace(events), ok)
				}
				s = after
			}
		}
	}
}

// plainStep executes an instruction in s itself, by the document's table.
func plainStep(c impl.Code, s *impl.Machine) []impl.Event {
	in, r := c.List[s.Pc], s.Regs
	events := []impl.Event{{Kind: 5, Value: s.Pc}}
	next := s.Pc + 1
	switch opTable[in.Op].name {
	case "const":
		r[in.A] = in.B
	case "get":
		r[in.A] = s.Mem.Vals[in.B]
	case "put":
		s.Mem.Vals[in.A] = r[in.B]
	case "load":
		at := r[in.C] & 3
		r[in.A] = s.Mem.Arrays[in.B][at]
		events = append(events, impl.Event{Kind: 2, Value: 4*in.B + at})
	case "store":
		at := r[in.B] & 3
		s.Mem.Arrays[in.A][at] = r[in.C]
		events = append(events, impl.Event{Kind: 3, Value: 4*in.A + at})
	case "bin":
		r[in.A] = int(plainOperation(in.B, byte(r[in.C]), byte(r[in.D])))
	case "select":
		if r[in.B] > 0 {
			r[in.A] = r[in.C]
		} else {
			r[in.A] = r[in.D]
		}
	case "jump":
		next = in.A
	case "zero":
		if r[in.A] == 0 {
			next = in.B
		}
	case "loop":
		if r[in.A] = int(byte(r[in.A]) - 1); r[in.A] > 0 {
			next = in.B
		}
	case "release":
		events = append(events, impl.Event{Kind: 4, Value: r[in.A]})
	case "halt":
		next = s.Pc
	}
	s.Pc = next
	return events
}

// plainRunCode executes c in m itself, and reports whether it halts within the limit.
func plainRunCode(c impl.Code, m impl.Memory) ([]impl.Event, bool) {
	s := impl.Machine{Regs: make([]int, 14), Mem: m}
	var trace []impl.Event
	for range 20000 {
		halts := opTable[c.List[s.Pc].Op].name == "halt"
		trace = append(trace, plainStep(c, &s)...)
		if halts {
			return trace, true
		}
	}
	return nil, false
}

// stepThrough repeats StepMachine up to the first halt, but not more than limit times.
func stepThrough(t *testing.T, c impl.Code, m impl.Memory, limit int) (impl.Memory, []impl.Event, bool) {
	t.Helper()
	s, ok := impl.StartMachine(c, m)
	var trace []impl.Event
	for count := 0; ok && count < limit; count++ {
		at := s.Pc
		after, events, stepped := impl.StepMachine(c, s)
		if !stepped {
			t.Fatalf("StepMachine does not accept %s", machineText(s))
		}
		trace = append(trace, events...)
		if c.List[at].Op == impl.OpHalt {
			return after.Mem, trace, true
		}
		s = after
	}
	return impl.Memory{}, nil, false
}

// checkRunCode checks that running c is stepping through it, and returns whether it halts.
func checkRunCode(t *testing.T, c impl.Code, m impl.Memory) bool {
	t.Helper()
	want := clonedMemory(m)
	trace, halts := plainRunCode(c, want)
	if !halts {
		want, trace = impl.Memory{}, nil
	}
	out, events, ok := impl.RunCode(c, m)
	if ok != halts || memoryText(out) != memoryText(want) || !slices.Equal(events, trace) {
		t.Errorf("RunCode of %q with %s = %s, %s, %v, want %s, %s, %v", impl.FormatCode(c), memoryText(m), memoryText(out), plainTrace(events), ok, memoryText(want), plainTrace(trace), halts)
	}
	if !ok {
		return false
	}
	last, steps, stepped := stepThrough(t, c, m, 20000)
	if !stepped || !impl.MemorySame(last, out) || !impl.TraceSame(steps, events) {
		t.Errorf("stepping through %q with %s leads to %s, %s, %v, want %s, %s", impl.FormatCode(c), memoryText(m), memoryText(last), plainTrace(steps), stepped, memoryText(out), plainTrace(events))
	}
	return true
}

func TestManySteps(t *testing.T) {
	numbers := source(62)
	for range 20000 {
		c := numbers.someCode(12)
		s := numbers.someMachine(c)
		want := clonedMachine(s)
		trace := plainStep(c, &want)
		kept := machineText(s)
		after, events, ok := impl.StepMachine(c, s)
		if !ok || machineText(after) != machineText(want) || !slices.Equal(events, trace) || machineText(s) != kept {
			t.Fatalf("a step of %q at %s leads to %s with %s, %v, want %s with %s", impl.FormatCode(c), kept, machineText(after), plainTrace(events), ok, machineText(want), plainTrace(trace))
		}
	}
}

func TestManyRunsOfCode(t *testing.T) {
	numbers := source(63)
	halted, endless := 0, 0
	for range 1500 {
		c := numbers.someCode(40)
		if checkRunCode(t, c, numbers.someMemory(impl.Program{Vars: c.Vars, Arrays: c.Arrays})) {
			halted++
		} else {
			endless++
		}
	}
	if halted < 700 || endless < 50 {
		t.Errorf("%d codes halted and %d did not", halted, endless)
	}
}

// runRow is a run of code with the memory before, where the trace has an s for each step.
type runRow struct{ declared, list, before, after, trace string }

func TestRunsOfCode(t *testing.T) {
	for _, row := range []runRow{
		{"L/", "const 0 5; put 0 0; halt", "9", "5", "s0 s1 s2"},
		{"L/", "halt", "9", "9", "s0"},
		{"LH/L", "get 0 1; put 0 0; get 1 0; load 2 0 1; store 0 2 1; release 2; halt", "9 2/0 1 3 0", "2 2/0 1 3 2", "s0 s1 s2 s3 r2 s4 w3 s5 o3 s6"},
		// A halt that is not the last instruction.
		{"L/", "halt; const 0 5; put 0 0; halt", "9", "9", "s0"},
		{"L/", "halt; halt", "9", "9", "s0"},
		{"L/", "const 0 5; halt; put 0 0; jump 0", "9", "9", "s0 s1"},
		{"L/", "jump 2; halt; const 0 5; put 0 0; jump 1", "9", "5", "s0 s2 s3 s4 s1"},
		{"L/", "get 0 0; zero 0 3; halt; const 1 7; put 0 1; halt", "9", "9", "s0 s1 s2"},
		{"L/", "get 0 0; zero 0 3; halt; const 1 7; put 0 1; halt", "0", "7", "s0 s1 s3 s4 s5"},
		{"L/", "get 0 0; zero 0 3; halt; const 1 7; put 0 1; jump 2", "0", "7", "s0 s1 s3 s4 s5 s2"},
		{"L/", "jump 3; halt; halt; jump 2; halt", "0", "0", "s0 s3 s2"},
		// Registers are 0 at first.
		{"LL/", "put 0 0; put 1 13; halt", "8 9", "0 0", "s0 s1 s2"},
		{"L/", "zero 5 2; jump 0; halt", "8", "8", "s0 s2"},
		{"L/L", "load 0 0 9; put 0 0; halt", "8/6 7 8 9", "6/6 7 8 9", "s0 r0 s1 s2"},
		// Loops.
		{"L/", "const 3 2; get 0 0; bin 0 4 0 3; put 0 0; loop 3 1; release 0; halt", "10", "13", "s0 s1 s2 s3 s4 s1 s2 s3 s4 s5 o13 s6"},
		{"L/", "const 1 1; loop 1 1; release 1; halt", "9", "9", "s0 s1 s2 o0 s3"},
		{"L/", "const 1 3; loop 1 1; release 1; halt", "9", "9", "s0 s1 s1 s1 s2 o0 s3"},
		{"L/", "const 1 2; const 2 2; get 0 0; bin 0 4 0 2; put 0 0; loop 2 2; loop 1 1; halt", "0", "6", "s0 s1 s2 s3 s4 s5 s2 s3 s4 s5 s6 s1 s2 s3 s4 s5 s2 s3 s4 s5 s6 s7"},
		// Jumps to the next instruction and over a fence.
		{"L/", "jump 1; zero 0 2; fence; loop 0 4; halt", "1", "1", "s0 s1 s2 s3 s4"},
		{"LHUXLHUXLHUX/LL", "get 13 11; load 12 1 13; put 10 12; release 12; store 1 13 0; halt", "1 2 3 4 5 6 7 8 9 10 11 255/0 0 0 0/1 2 3 4", "1 2 3 4 5 6 7 8 9 10 4 255/0 0 0 0/1 2 3 0", "s0 s1 r7 s2 s3 o4 s4 w7 s5"},
	} {
		c, m := codeIn(t, row.declared, row.list), memoryIn(row.before)
		out, trace, ok := impl.RunCode(c, m)
		got := plainTrace(trace)
		for i, letter := range []string{"r", "w", "o", "s"} {
			got = strings.ReplaceAll(got, strconv.Itoa(i+2)+":", letter)
		}
		if !ok || memoryText(out) != row.after || got != row.trace {
			t.Errorf("%s with %s: RunCode = %s, %s, %v, want %s, %s", row.list, row.before, memoryText(out), got, ok, row.after, row.trace)
		}
		checkRunCode(t, c, m)
	}
}

func TestLoopWithACounterOfZero(t *testing.T) {
	for count := range 256 {
		c := codeIn(t, "LL/", "get 1 0; const 2 1; get 0 1; bin 0 4 0 2; put 1 0; loop 1 2; halt")
		rounds := (count+255)%256 + 1
		out, trace, ok := impl.RunCode(c, impl.Memory{Vals: []int{count, 7}})
		if !ok || out.Vals[1] != (7+rounds)%256 || len(trace) != 3+4*rounds {
			t.Errorf("a loop with the counter %d has %d events and leads to %s, %v", count, len(trace), memoryText(out), ok)
		}
	}
}

// longCode returns code that halts as instruction number steps, which is at least 19972 and at most 20200. The instruction in is in its loop.
func longCode(steps int, in impl.Instr) impl.Code {
	// The counter 0 stands for 256 rounds with 78 instructions each.
	list := []impl.Instr{instr(impl.OpConst, 0, 0)}
	list = append(list, slices.Repeat([]impl.Instr{in}, 77)...)
	list = append(list, instr(impl.OpLoop, 0, 1), instr(impl.OpConst, 1, 9))
	list = append(list, slices.Repeat([]impl.Instr{instr(impl.OpFence)}, steps-19972)...)
	return codeOf("L/L", append(list, instr(impl.OpPut, 0, 1), instr(impl.OpHalt))...)
}

func TestLimitOfSteps(t *testing.T) {
	for _, in := range []impl.Instr{instr(impl.OpFence), instr(impl.OpLoad, 5, 0, 0), instr(impl.OpRelease, 0)} {
		for _, steps := range []int{19972, 19998, 19999, 20000, 20001, 20002, 20100} {
			c, m := longCode(steps, in), memoryIn("3/4 5 6 7")
			checkCode(t, "long code", c)
			out, trace, ok := impl.RunCode(c, m)
			if steps > 20000 {
				if ok || !isZeroMemory(out) || len(trace) != 0 {
					t.Errorf("code that halts as instruction %d: RunCode = %s, %d events, %v", steps, memoryText(out), len(trace), ok)
				}
				continue
			}
			want := steps
			if in.Op != impl.OpFence {
				want += 77 * 256
			}
			if !ok || memoryText(out) != "9/4 5 6 7" || len(trace) != want || trace[want-1] != (impl.Event{Kind: 5, Value: len(c.List) - 1}) {
				t.Errorf("code that halts as instruction %d: RunCode = %s, %d events, %v", steps, memoryText(out), len(trace), ok)
			}
			checkRunCode(t, c, m)
		}
	}
	// Stepping does not know the limit.
	if out, trace, ok := stepThrough(t, longCode(20001, instr(impl.OpFence)), memoryIn("3/4 5 6 7"), 20001); !ok || len(trace) != 20001 || memoryText(out) != "9/4 5 6 7" {
		t.Errorf("stepping 20001 times leads to %s with %d events, %v", memoryText(out), len(trace), ok)
	}
}

func TestCodeThatDoesNotHalt(t *testing.T) {
	for _, list := range []string{"jump 0", "fence; jump 0", "jump 1; jump 0", "jump 0; halt", "jump 1; jump 0; halt", "zero 0 0; halt", "fence; zero 3 0; halt", "const 0 1; get 1 0; zero 2 1; halt", "jump 2; halt; jump 2", "loop 0 0; jump 0", "loop 0 2; halt; const 0 2; jump 0", "const 0 2; loop 0 0; halt"} {
		c := codeIn(t, "L/", list)
		out, trace, ok := impl.RunCode(c, impl.Memory{Vals: []int{7}})
		if ok || !isZeroMemory(out) || len(trace) != 0 {
			t.Errorf("RunCode of %s = %s, %d events, %v", list, memoryText(out), len(trace), ok)
		}
		if checkRunCode(t, c, impl.Memory{Vals: []int{7}}) {
			t.Errorf("%s halts", list)
		}
	}
	// Whether the code halts depends on the memory.
	c := codeIn(t, "L/", "get 0 0; zero 0 1; halt")
	if checkRunCode(t, c, impl.Memory{Vals: []int{0}}) || !checkRunCode(t, c, impl.Memory{Vals: []int{1}}) {
		t.Error("code halts with 0 or does not with 1")
	}
}

// spareCode returns c with unused capacity behind every slice.
func spareCode(c impl.Code) impl.Code {
	spare := func(list []int) []int { return append(slices.Grow(slices.Clone(list), 2), 77, 77)[:len(list)] }
	return impl.Code{Vars: spare(c.Vars), Arrays: spare(c.Arrays), List: append(slices.Grow(slices.Clone(c.List), 1), instr(77))[:len(c.List)]}
}

// isSpareCodeKept reports whether the unused capacity is as spareCode made it.
func isSpareCodeKept(c impl.Code) bool {
	kept := func(list []int) bool { return slices.Equal(list[len(list):len(list)+2], []int{77, 77}) }
	return kept(c.Vars) && kept(c.Arrays) && c.List[:len(c.List)+1][len(c.List)] == instr(77)
}

// machineCode uses everything that a machine has, and halts.
const machineCode = "const 0 3; get 1 0; load 2 0 1; store 1 2 0; bin 3 4 2 1; select 4 3 2 1; put 1 4; release 4; fence; loop 0 1; zero 0 12; halt; jump 11"

func TestMachineKeepsArguments(t *testing.T) {
	c := spareCode(codeIn(t, "LHU/HX", machineCode))
	keptCode := clonedCode(c)
	for pc := range c.List {
		s := machineIn(pc, "0=2 1=6")
		s.Regs = append(slices.Grow(s.Regs, 2), 77, 77)[:14]
		s.Mem = spareMemory(s.Mem)
		kept := machineText(s)
		impl.CodeValid(c)
		impl.CodeSame(c, c)
		impl.FormatCode(c)
		impl.StartMachine(c, s.Mem)
		impl.MachineValid(c, s)
		impl.MachineSame(s, s)
		_, _, stepped := impl.StepMachine(c, s)
		_, _, ran := impl.RunCode(c, s.Mem)
		if !stepped || !ran || machineText(s) != kept || !reflect.DeepEqual(c, keptCode) {
			t.Errorf("a function changed its argument: %v, %s, want %s", c, machineText(s), kept)
		}
		if !isSpareCodeKept(c) || !isSpareKept(s.Mem) || !slices.Equal(s.Regs[14:16], []int{77, 77}) {
			t.Error("a function changed what is beyond its argument")
		}
	}
}

// numbersUsed adds every number in lists, including unused capacity, to used, and reports whether none of them was there.
func numbersUsed(used map[*int]bool, lists ...[]int) bool {
	alone := true
	for _, list := range lists {
		list = list[:cap(list)]
		for i := range list {
			alone = alone && !used[&list[i]]
			used[&list[i]] = true
		}
	}
	return alone
}

// listsOf returns all lists of numbers in a state.
func listsOf(s impl.Machine) [][]int {
	return append(slices.Clone(s.Mem.Arrays), s.Regs, s.Mem.Vals)
}

// checkOwnMemory checks that the results of a function share no memory with each other or with its arguments.
func checkOwnMemory(t *testing.T, what string, arguments [][]int, call func() (impl.Machine, []impl.Event)) {
	t.Helper()
	first, events := call()
	second, others := call()
	text, trace := machineText(second), plainTrace(others)
	used := map[*int]bool{}
	numbersUsed(used, arguments...)
	if !numbersUsed(used, listsOf(first)...) || !numbersUsed(used, listsOf(second)...) {
		t.Errorf("a result of %s shares memory with another result, with an argument or with itself", what)
	}
	overwriteMemory(first.Mem)
	overwriteTrace(events)
	for i := range first.Regs {
		first.Regs[i] = 77
	}
	if third, more := call(); machineText(second) != text || plainTrace(others) != trace || machineText(third) != text || plainTrace(more) != trace {
		t.Errorf("a result of %s shares memory with another result, or %s keeps state", what, what)
	}
	for _, list := range arguments {
		for i := range list {
			list[i]++
		}
	}
	if machineText(second) != text || plainTrace(others) != trace {
		t.Errorf("a result of %s shares memory with an argument", what)
	}
}

func TestMachineResultsShareNoMemory(t *testing.T) {
	for pc := range len(strings.Split(machineCode, "; ")) {
		c, s := codeIn(t, "LHU/HX", machineCode), machineIn(pc, "0=2 1=6")
		s.Mem = spareMemory(s.Mem)
		checkOwnMemory(t, "StepMachine", append(listsOf(s), c.Vars, c.Arrays), func() (impl.Machine, []impl.Event) {
			after, events, _ := impl.StepMachine(c, s)
			return after, events
		})
	}
	for _, list := range []string{machineCode, "halt", "const 0 1; put 2 0; halt"} {
		for what, call := range map[string]func(c impl.Code, m impl.Memory) (impl.Machine, []impl.Event, bool){
			"RunCode": func(c impl.Code, m impl.Memory) (impl.Machine, []impl.Event, bool) {
				out, events, ok := impl.RunCode(c, m)
				return impl.Machine{Mem: out}, events, ok
			},
			"StartMachine": func(c impl.Code, m impl.Memory) (impl.Machine, []impl.Event, bool) {
				s, ok := impl.StartMachine(c, m)
				return s, nil, ok
			},
		} {
			c, m := codeIn(t, "LHU/HX", list), memoryIn("10 20 30/40 41 42 43/50 51 52 53")
			checkOwnMemory(t, what, append(slices.Clone(m.Arrays), m.Vals, c.Vars, c.Arrays), func() (impl.Machine, []impl.Event) {
				s, events, ok := call(c, m)
				if !ok {
					t.Errorf("%s does not accept %q", what, list)
				}
				return s, events
			})
		}
	}
}

func TestParsedCodeSharesNoMemory(t *testing.T) {
	for _, text := range []string{fullCode, "code LLLL/LL\nhalt\n", "code L/\njump 0\n"} {
		first, ok := impl.ParseCode(text)
		second, _ := impl.ParseCode(text)
		used := map[*int]bool{}
		if !ok || !numbersUsed(used, first.Vars, first.Arrays, second.Vars, second.Arrays) {
			t.Errorf("ParseCode(%q) shares labels", text)
		}
		for _, list := range [][]int{first.Vars[:cap(first.Vars)], first.Arrays[:cap(first.Arrays)]} {
			for i := range list {
				list[i] = 77
			}
		}
		for i := range first.List[:cap(first.List)] {
			first.List[:cap(first.List)][i] = instr(77, 77, 77, 77, 77-1)
		}
		if third, _ := impl.ParseCode(text); impl.FormatCode(second) != text || impl.FormatCode(third) != text {
			t.Errorf("ParseCode(%q) shares memory or keeps state", text)
		}
	}
}

func TestMachinesOfOneSlice(t *testing.T) {
	c := codeIn(t, "LLLL/LL", "const 0 200; put 0 0; const 1 6; store 0 1 0; store 1 0 1; halt")
	shared := slices.Repeat([]int{1, 2, 3, 4, 5, 6, 7}, 2)
	m := impl.Memory{Vals: shared[:4], Arrays: [][]int{shared[:4], shared[2:6]}}
	out, _, ok := impl.RunCode(c, m)
	if !ok || memoryText(out) != "200 2 3 4/1 2 200 4/6 4 5 6" || numbersText(shared) != "1 2 3 4 5 6 7 1 2 3 4 5 6 7" {
		t.Errorf("RunCode = %s, %v and the argument is %v", memoryText(out), ok, shared)
	}
	s := impl.Machine{Pc: 1, Regs: shared, Mem: m}
	for range 4 {
		after, _, ok := impl.StepMachine(c, s)
		if !ok || !numbersUsed(map[*int]bool{}, listsOf(after)...) {
			t.Errorf("StepMachine = %s, %v", machineText(after), ok)
		}
		s = after
	}
	if want := "5 | 1 6 3 4 5 6 7 1 2 3 4 5 6 7 | 1 2 3 4/1 2 1 4/3 6 5 6"; machineText(s) != want || numbersText(shared) != "1 2 3 4 5 6 7 1 2 3 4 5 6 7" {
		t.Errorf("stepping leads to %s, want %s, and the argument is %v", machineText(s), want, shared)
	}
	labels := []int{0, 1, 2, 3}
	both := impl.Code{Vars: labels, Arrays: labels[1:3], List: []impl.Instr{instr(impl.OpHalt)}}
	if got := impl.FormatCode(both); got != "code LHUX/HU\nhalt\n" || !impl.CodeValid(both) {
		t.Errorf("FormatCode = %q", got)
	}
}

func TestMachinesAtTheSameTime(t *testing.T) {
	c, m := codeIn(t, "LHU/HX", machineCode), memoryIn("10 20 30/40 41 42 43/50 51 52 53")
	out, events, _ := impl.RunCode(c, m)
	want, text := memoryText(out)+" "+plainTrace(events), impl.FormatCode(c)
	var group sync.WaitGroup
	for range 8 {
		group.Go(func() {
			for range 100 {
				got, trace, ok := impl.RunCode(c, m)
				if !ok || memoryText(got)+" "+plainTrace(trace) != want {
					t.Errorf("RunCode = %s, %s, %v", memoryText(got), plainTrace(trace), ok)
				}
				if back, ok := impl.ParseCode(text); !ok || !impl.CodeSame(back, c) || impl.FormatCode(back) != text {
					t.Errorf("ParseCode(%q) = %v, %v", text, back, ok)
				}
			}
		})
	}
	group.Wait()
}
