package tests

import (
	"math"
	"reflect"
	"slices"
	"strconv"
	"strings"
	"sync"
	"testing"

	"loop.example/constanttime/impl"
)

// publicRow is the line of a row in which no register is secret.
const publicRow = "LLLLLLLLLLLLLL"

// plainFollowers returns the instructions that may follow an instruction of valid code.
func plainFollowers(c impl.Code, at int) []int {
	switch name := opTable[c.List[at].Op].name; name {
	case "halt":
		return nil
	case "jump":
		return []int{plainTarget(c.List[at])}
	case "zero", "loop":
		return []int{at + 1, plainTarget(c.List[at])}
	}
	return []int{at + 1}
}

// plainAfter returns the row after an instruction, as a line, by the document's list.
func plainAfter(c impl.Code, in impl.Instr, row string) string {
	secret := false
	switch opTable[in.Op].name {
	case "const", "release":
	case "get":
		secret = isSecret(c.Vars[in.B])
	case "load":
		secret = isSecret(c.Arrays[in.B]) || row[in.C] == 'H'
	case "bin":
		secret = row[in.C] == 'H' || row[in.D] == 'H'
	case "select":
		secret = row[in.B] == 'H' || row[in.C] == 'H' || row[in.D] == 'H'
	default:
		return row
	}
	letter := "L"
	if secret {
		letter = "H"
	}
	return row[:in.A] + letter + row[in.A+1:]
}

// plainLeak returns the result that an instruction has with its row, which is a line.
func plainLeak(c impl.Code, in impl.Instr, row string) int {
	name := opTable[in.Op].name
	switch {
	case row == "":
	case (name == "zero" || name == "loop") && row[in.A] == 'H':
		return impl.FlowBranch
	case name == "load" && row[in.C] == 'H', name == "store" && row[in.B] == 'H':
		return impl.FlowAddress
	case name == "put" && row[in.B] == 'H' && !isSecret(c.Vars[in.A]), name == "store" && row[in.C] == 'H' && !isSecret(c.Arrays[in.A]):
		return impl.FlowAssign
	}
	return impl.FlowFine
}

// plainJoin returns the least row that is not less than both rows.
func plainJoin(a, b string) string {
	if a == "" || b == "" {
		return a + b
	}
	joined := []byte(a)
	for r := range joined {
		if b[r] == 'H' {
			joined[r] = 'H'
		}
	}
	return string(joined)
}

// plainlyCovers reports whether rows cover valid code.
func plainlyCovers(c impl.Code, rows []string) bool {
	for at, in := range c.List {
		if rows[at] == "" {
			continue
		}
		after := plainAfter(c, in, rows[at])
		for _, next := range plainFollowers(c, at) {
			if rows[next] == "" || plainJoin(rows[next], after) != rows[next] {
				return false
			}
		}
	}
	return rows[0] != ""
}

// plainTaint returns the rows of the least taint map that covers valid code.
func plainTaint(c impl.Code) []string {
	rows := make([]string, len(c.List))
	rows[0] = publicRow
	for changed := true; changed; {
		changed = false
		for at, in := range c.List {
			if rows[at] == "" {
				continue
			}
			for _, next := range plainFollowers(c, at) {
				joined := plainJoin(rows[next], plainAfter(c, in, rows[at]))
				changed = changed || joined != rows[next]
				rows[next] = joined
			}
		}
	}
	return rows
}

// plainlyChecked returns the first result that an instruction has with its row, and its number.
func plainlyChecked(c impl.Code, rows []string) (int, int) {
	for at, in := range c.List {
		if result := plainLeak(c, in, rows[at]); result != impl.FlowFine {
			return result, at
		}
	}
	return impl.FlowFine, -1
}

// plainRows returns the lines of a taint map, and whether it has the right form for valid code.
func plainRows(c impl.Code, taint [][]bool) ([]string, bool) {
	var rows []string
	for _, row := range taint {
		if len(row) != 0 && len(row) != 14 {
			return nil, false
		}
		rows = append(rows, strings.NewReplacer("0", "L", "1", "H").Replace(marks(row)))
	}
	return rows, len(taint) == len(c.List)
}

// plainlyAccepted is CheckTaint for valid code.
func plainlyAccepted(c impl.Code, taint [][]bool) bool {
	rows, ok := plainRows(c, taint)
	if !ok || !plainlyCovers(c, rows) {
		return false
	}
	result, _ := plainlyChecked(c, rows)
	return result == impl.FlowFine
}

// taintOf returns the taint map with these lines.
func taintOf(rows []string) [][]bool {
	taint := make([][]bool, len(rows))
	for at, row := range rows {
		for r := range len(row) {
			taint[at] = append(taint[at], row[r] == 'H')
		}
	}
	return taint
}

// taintIn returns the taint map in which a text states for each row which registers are secret.
// A row is - if it is empty and a dot if no register is secret. Behind each but the last are a semicolon and a space.
func taintIn(text string) [][]bool {
	var rows []string
	for _, row := range strings.Split(text, "; ") {
		letters := []byte(publicRow)
		switch row {
		case "-":
			letters = nil
		case ".":
		default:
			for _, r := range numbersIn(row) {
				letters[r] = 'H'
			}
		}
		rows = append(rows, string(letters))
	}
	return taintOf(rows)
}

// taintText writes any taint map like taintIn.
func taintText(taint [][]bool) string {
	var rows []string
	for _, row := range taint {
		var list []int
		for r, secret := range row {
			if secret {
				list = append(list, r)
			}
		}
		switch {
		case len(row) == 0:
			rows = append(rows, "-")
		case len(row) != 14:
			rows = append(rows, "length "+strconv.Itoa(len(row))+": "+numbersText(list))
		case len(list) == 0:
			rows = append(rows, ".")
		default:
			rows = append(rows, numbersText(list))
		}
	}
	return strings.Join(rows, "; ")
}

func clonedTaint(taint [][]bool) [][]bool {
	clone := slices.Clone(taint)
	for at := range clone {
		clone[at] = slices.Clone(clone[at])
	}
	return clone
}

// checkVerified checks what the functions return for valid code, and returns its least map, or nil if it leaks.
func checkVerified(t *testing.T, c impl.Code) [][]bool {
	t.Helper()
	text, rows := plainCodeText(c), plainTaint(c)
	want, wantAt := plainlyChecked(c, rows)
	if got, at := impl.CheckCode(c); got != want || at != wantAt {
		t.Errorf("CheckCode of %q = %d, %d, want %d, %d", text, got, at, want, wantAt)
	}
	releases := strings.Contains(text, "release")
	if got := impl.CodeReleases(c); got != releases {
		t.Errorf("CodeReleases of %q = %v", text, got)
	}
	taint, ok := impl.InferTaint(c)
	if want != impl.FlowFine {
		if ok || len(taint) != 0 {
			t.Errorf("InferTaint of %q = %s, %v", text, taintText(taint), ok)
		}
		if impl.CheckTaint(c, taintOf(rows)) {
			t.Errorf("CheckTaint of %q accepts %s", text, taintText(taintOf(rows)))
		}
		return nil
	}
	if !ok || taintText(taint) != taintText(taintOf(rows)) {
		t.Errorf("InferTaint of %q = %s, %v, want %s", text, taintText(taint), ok, taintText(taintOf(rows)))
	}
	if !impl.CheckTaint(c, taint) {
		t.Errorf("CheckTaint of %q does not accept %s", text, taintText(taint))
	}
	lines := strings.Join(rows, "\n") + "\n"
	if got := impl.FormatTaint(taint); got != lines {
		t.Errorf("FormatTaint of %s = %q, want %q", taintText(taint), got, lines)
	}
	if back, ok := impl.ParseTaint(lines); !ok || taintText(back) != taintText(taint) {
		t.Errorf("ParseTaint of %q = %s, %v", lines, taintText(back), ok)
	}
	return taint
}

// taintRow has code, the least taint map that covers it, and the result of CheckCode.
type taintRow struct {
	declared, list string
	code, at       int
	taint          string
}

func checkTaintRow(t *testing.T, row taintRow) {
	t.Helper()
	c := codeIn(t, row.declared, row.list)
	if got, at := impl.CheckCode(c); got != row.code || at != row.at {
		t.Errorf("CheckCode of %s %s = %d, %d, want %d, %d", row.declared, row.list, got, at, row.code, row.at)
	}
	if plain := taintText(taintOf(plainTaint(c))); plain != row.taint {
		t.Errorf("the plain map of %s %s is %s, want %s", row.declared, row.list, plain, row.taint)
	}
	taint, ok := impl.InferTaint(c)
	if want := row.code == impl.FlowFine; ok != want || ok && taintText(taint) != row.taint || !ok && len(taint) != 0 {
		t.Errorf("InferTaint of %s %s = %s, %v, want %s", row.declared, row.list, taintText(taint), ok, row.taint)
	}
	if got := impl.CheckTaint(c, taintIn(row.taint)); got != ok {
		t.Errorf("CheckTaint of %s %s and %s = %v", row.declared, row.list, row.taint, got)
	}
	checkVerified(t, c)
}

func TestTaintOfEveryOperation(t *testing.T) {
	for _, row := range []taintRow{
		// Variables 0 to 3 and arrays 0 and 1 have the labels in the declarations. Variable 1 is secret.
		{"LH/", "const 0 5; put 0 0; halt", impl.FlowFine, -1, ".; .; ."},
		{"LH/", "get 0 1; const 0 5; put 0 0; halt", impl.FlowFine, -1, ".; 0; .; ."},
		{"LH/", "get 0 1; const 1 5; put 0 1; halt", impl.FlowFine, -1, ".; 0; 0; 0"},
		{"LH/", "get 0 0; put 0 0; put 1 0; halt", impl.FlowFine, -1, ".; .; .; ."},
		{"LH/", "get 0 1; put 1 0; halt", impl.FlowFine, -1, ".; 0; 0"},
		{"LH/", "get 0 1; put 0 0; halt", impl.FlowAssign, 1, ".; 0; 0"},
		{"LH/", "get 0 1; get 0 0; put 0 0; halt", impl.FlowFine, -1, ".; 0; .; ."},
		{"LH/", "get 13 1; put 1 13; halt", impl.FlowFine, -1, ".; 13; 13"},
		// Loads from a public and a secret array, at a public and a secret index.
		{"LH/LH", "load 1 0 0; put 0 1; halt", impl.FlowFine, -1, ".; .; ."},
		{"LH/LH", "load 1 1 0; put 1 1; halt", impl.FlowFine, -1, ".; 1; 1"},
		{"LH/LH", "load 1 1 0; put 0 1; halt", impl.FlowAssign, 1, ".; 1; 1"},
		{"LH/LH", "get 1 1; load 1 0 0; put 0 1; halt", impl.FlowFine, -1, ".; 1; .; ."},
		{"LH/LH", "get 0 1; load 1 0 0; halt", impl.FlowAddress, 1, ".; 0; 0 1"},
		{"LH/LH", "get 0 1; load 1 1 0; halt", impl.FlowAddress, 1, ".; 0; 0 1"},
		{"LH/LH", "get 0 1; load 0 0 0; halt", impl.FlowAddress, 1, ".; 0; 0"},
		{"LH/LH", "load 0 1 0; load 1 0 0; halt", impl.FlowAddress, 1, ".; 0; 0 1"},
		// Stores to a public and a secret array.
		{"LH/LH", "store 0 0 1; store 1 0 1; halt", impl.FlowFine, -1, ".; .; ."},
		{"LH/LH", "get 1 1; store 1 0 1; halt", impl.FlowFine, -1, ".; 1; 1"},
		{"LH/LH", "get 1 1; store 0 0 1; halt", impl.FlowAssign, 1, ".; 1; 1"},
		{"LH/LH", "get 0 1; store 1 0 1; halt", impl.FlowAddress, 1, ".; 0; 0"},
		{"LH/LH", "get 0 1; store 0 0 1; halt", impl.FlowAddress, 1, ".; 0; 0"},
		// This one would have two results.
		{"LH/LH", "get 0 1; get 1 1; store 0 0 1; halt", impl.FlowAddress, 2, ".; 0; 0 1; 0 1"},
		{"LH/LH", "get 0 1; store 0 0 0; halt", impl.FlowAddress, 1, ".; 0; 0"},
		// A store and a put make nothing of registers with the numbers of their arrays and variables.
		{"LH/LH", "get 1 1; store 1 0 1; put 1 1; put 0 0; halt", impl.FlowFine, -1, ".; 1; 1; 1; 1"},
		{"LH/", "get 1 1; put 1 0; put 1 1; halt", impl.FlowFine, -1, ".; 1; 1; 1"},
		{"LH/LH", "get 0 1; store 0 2 3; put 1 0; halt", impl.FlowFine, -1, ".; 0; 0; 0"},
		// Operands.
		{"LH/", "bin 0 4 1 2; put 0 0; halt", impl.FlowFine, -1, ".; .; ."},
		{"LH/", "get 1 1; bin 0 4 1 2; halt", impl.FlowFine, -1, ".; 1; 0 1"},
		{"LH/", "get 2 1; bin 0 4 1 2; halt", impl.FlowFine, -1, ".; 2; 0 2"},
		{"LH/", "get 1 1; get 2 1; bin 0 4 1 2; halt", impl.FlowFine, -1, ".; 1; 1 2; 0 1 2"},
		{"LH/", "get 0 1; bin 0 4 1 2; put 0 0; halt", impl.FlowFine, -1, ".; 0; .; ."},
		{"LH/", "get 0 1; bin 0 5 0 0; halt", impl.FlowFine, -1, ".; 0; 0"},
		// The operator is no register.
		{"LH/", "get 4 1; bin 0 4 1 2; put 0 0; halt", impl.FlowFine, -1, ".; 4; 4; 4"},
		{"LH/", "select 0 1 2 3; put 0 0; halt", impl.FlowFine, -1, ".; .; ."},
		{"LH/", "get 1 1; select 0 1 2 3; halt", impl.FlowFine, -1, ".; 1; 0 1"},
		{"LH/", "get 2 1; select 0 1 2 3; halt", impl.FlowFine, -1, ".; 2; 0 2"},
		{"LH/", "get 3 1; select 0 1 2 3; halt", impl.FlowFine, -1, ".; 3; 0 3"},
		{"LH/", "get 0 1; select 0 1 2 3; put 0 0; halt", impl.FlowFine, -1, ".; 0; .; ."},
		{"LH/", "get 1 1; get 2 1; get 3 1; select 0 1 2 3; halt", impl.FlowFine, -1, ".; 1; 1 2; 1 2 3; 0 1 2 3"},
		// Releases.
		{"LH/", "get 0 1; get 1 1; release 0; put 0 0; halt", impl.FlowFine, -1, ".; 0; 0 1; 1; 1"},
		{"LH/", "release 0; put 0 0; halt", impl.FlowFine, -1, ".; .; ."},
		{"LH/", "get 0 1; release 0; zero 0 3; halt", impl.FlowFine, -1, ".; 0; .; ."},
		{"LH/LL", "get 0 1; release 0; load 1 0 0; store 1 1 0; loop 0 0; halt", impl.FlowFine, -1, ".; 0; .; .; .; ."},
		{"LH/", "get 0 1; bin 1 4 0 0; release 0; put 0 1; halt", impl.FlowAssign, 3, ".; 0; 0 1; 1; 1"},
		{"LH/", "get 0 1; release 0; get 0 1; put 0 0; halt", impl.FlowAssign, 3, ".; 0; .; 0; 0"},
		// Branches and jumps.
		{"LH/", "get 0 1; zero 0 2; halt", impl.FlowBranch, 1, ".; 0; 0"},
		{"LH/", "get 0 1; loop 0 2; halt", impl.FlowBranch, 1, ".; 0; 0"},
		{"LH/", "get 0 1; zero 1 2; put 1 0; halt", impl.FlowFine, -1, ".; 0; 0; 0"},
		{"LH/", "get 0 1; loop 1 2; put 1 0; halt", impl.FlowFine, -1, ".; 0; 0; 0"},
		{"LH/", "get 0 1; loop 1 1; put 0 1; halt", impl.FlowFine, -1, ".; 0; 0; 0"},
		{"LH/", "get 2 1; jump 2; fence; put 1 2; halt", impl.FlowFine, -1, ".; 2; 2; 2; 2"},
		{"LH/", "get 0 1; fence; put 0 0; halt", impl.FlowAssign, 2, ".; 0; 0; 0"},
	} {
		checkTaintRow(t, row)
	}
}

// probed returns code in which the registers of a set are made secret, an instruction follows, and a public variable is then set to a register.
// What sets it is instruction 1, so that it has the first result if the register is secret after the instruction.
func probed(declared string, secret int, in impl.Instr, r int) impl.Code {
	list := []impl.Instr{instr(impl.OpJump, 3), instr(impl.OpPut, 0, r), instr(impl.OpHalt)}
	for k := range 14 {
		if secret>>k&1 != 0 {
			list = append(list, instr(impl.OpGet, k, 1))
		}
	}
	for i, letter := range opTable[in.Op].fields {
		if letter == 't' {
			*fieldOf(&in, i) = 1
		}
	}
	return codeOf(declared, append(list, in, instr(impl.OpJump, 1))...)
}

func TestEveryRegisterAfterEveryInstruction(t *testing.T) {
	numbers := source(90)
	seen := map[string]int{}
	for op := impl.OpConst; op < impl.OpHalt; op++ {
		for range 40 {
			in := numbers.someInstr(codeOf("LHUX/LH", instr(impl.OpHalt)), 0, op)
			secret := numbers.below(1 << 14)
			row := []byte(publicRow)
			for r := range row {
				if secret>>r&1 != 0 {
					row[r] = 'H'
				}
			}
			after := plainAfter(codeOf("LHUX/LH"), in, string(row))
			own := plainLeak(codeOf("LHUX/LH"), in, string(row))
			for r := range 14 {
				c := probed("LHUX/LH", secret, in, r)
				want, wantAt := impl.FlowFine, -1
				if own != impl.FlowFine {
					want, wantAt = own, len(c.List)-2
				}
				if after[r] == 'H' {
					want, wantAt = impl.FlowAssign, 1
					seen[opTable[op].name+" secret"]++
				} else {
					seen[opTable[op].name+" public"]++
				}
				if got, at := impl.CheckCode(c); got != want || at != wantAt {
					t.Errorf("CheckCode of %q = %d, %d, want %d, %d", plainCodeText(c), got, at, want, wantAt)
				}
			}
		}
	}
	for op := impl.OpConst; op < impl.OpHalt; op++ {
		for _, what := range []string{" secret", " public"} {
			if seen[opTable[op].name+what] < 100 {
				t.Errorf("a register that is%s was seen only %d times after %s", what, seen[opTable[op].name+what], opTable[op].name)
			}
		}
	}
}

func TestTaintOfEveryLabel(t *testing.T) {
	for l, letter := range []string{"L", "H", "U", "X"} {
		declared := "L" + letter + "/L" + letter
		for r := range 14 {
			reg := strconv.Itoa(r)
			for list, want := range map[string]int{
				"get " + reg + " 1; put 0 " + reg + "; halt": impl.FlowAssign, "get " + reg + " 1; put 1 " + reg + "; halt": impl.FlowFine,
				"load " + reg + " 1 0; put 0 " + reg + "; halt": impl.FlowAssign, "load " + reg + " 1 0; put 1 " + reg + "; halt": impl.FlowFine,
				"get " + reg + " 1; zero " + reg + " 2; halt": impl.FlowBranch, "get " + reg + " 1; loop " + reg + " 2; halt": impl.FlowBranch,
				"get " + reg + " 1; load 0 0 " + reg + "; halt": impl.FlowAddress, "get " + reg + " 1; load 0 1 " + reg + "; halt": impl.FlowAddress,
				"load " + reg + " 1 0; store 1 " + reg + " " + reg + "; halt": impl.FlowAddress,
			} {
				at := 1
				if want == impl.FlowFine || l%2 == 0 {
					want, at = impl.FlowFine, -1
				}
				c := codeIn(t, declared, list)
				if got, gotAt := impl.CheckCode(c); got != want || gotAt != at {
					t.Errorf("CheckCode of %s %s = %d, %d, want %d, %d", declared, list, got, gotAt, want, at)
				}
				checkVerified(t, c)
			}
		}
		for m, other := range []string{"L", "H", "U", "X"} {
			c := codeIn(t, letter+other+"/"+letter+other, "get 2 0; put 1 2; load 3 0 0; store 1 0 3; store 1 0 2; put 1 3; halt")
			want, at := impl.FlowFine, -1
			if l%2 == 1 && m%2 == 0 {
				want, at = impl.FlowAssign, 1
			}
			if got, gotAt := impl.CheckCode(c); got != want || gotAt != at {
				t.Errorf("CheckCode from label %d to %d = %d, %d, want %d, %d", l, m, got, gotAt, want, at)
			}
			checkVerified(t, c)
		}
	}
	// Each variable and each array has a label of its own.
	for v := range 12 {
		letters := []byte("LLLLLLLLLLLL")
		letters[v] = 'H'
		for w := range 12 {
			c := codeIn(t, string(letters)+"/", "get 5 "+strconv.Itoa(w)+"; zero 5 2; halt")
			want, at := impl.FlowFine, -1
			if v == w {
				want, at = impl.FlowBranch, 1
			}
			if got, gotAt := impl.CheckCode(c); got != want || gotAt != at {
				t.Errorf("CheckCode with variable %d secret and %d read = %d, %d", v, w, got, gotAt)
			}
		}
	}
}

func TestFirstLeak(t *testing.T) {
	for _, row := range []taintRow{
		{"LH/L", "get 0 1; put 0 0; zero 0 3; load 1 0 0; halt", impl.FlowAssign, 1, ".; 0; 0; 0; 0 1"},
		{"LH/L", "get 0 1; zero 0 2; put 0 0; load 1 0 0; halt", impl.FlowBranch, 1, ".; 0; 0; 0; 0 1"},
		{"LH/L", "get 0 1; load 1 0 0; zero 0 3; put 0 0; halt", impl.FlowAddress, 1, ".; 0; 0 1; 0 1; 0 1"},
		{"LH/L", "get 0 1; store 0 1 0; store 0 0 1; halt", impl.FlowAssign, 1, ".; 0; 0; 0"},
		// By number, though the other one is reached before it.
		{"LH/L", "jump 3; put 0 0; halt; get 0 1; zero 0 5; jump 1", impl.FlowAssign, 1, ".; 0; 0; .; 0; 0"},
		{"LH/L", "jump 4; fence; loop 0 3; halt; get 0 1; load 1 0 0; jump 1", impl.FlowBranch, 2, ".; 0 1; 0 1; 0 1; .; 0; 0 1"},
		{"LH/L", "get 0 1; jump 5; store 0 0 1; put 0 0; halt; put 0 0; zero 0 3; jump 2", impl.FlowAddress, 2, ".; 0; 0; 0; 0; 0; 0; 0"},
		{"LH/L", "zero 5 3; put 0 0; halt; get 0 1; jump 6; halt; put 0 0; jump 1", impl.FlowAssign, 1, ".; 0; 0; .; 0; -; 0; 0"},
		// It has a result only by way of a later one.
		{"LH/L", "fence; put 0 0; get 0 1; jump 0", impl.FlowAssign, 1, "0; 0; 0; 0"},
		{"LH/L", "zero 0 2; get 0 1; jump 0", impl.FlowBranch, 0, "0; 0; 0"},
		{"LH/L", "loop 0 0; get 0 1; jump 0", impl.FlowBranch, 0, "0; 0; 0"},
		{"LH/L", "load 1 0 0; get 0 1; jump 0", impl.FlowAddress, 0, "0 1; 0 1; 0 1"},
		{"LH/L", "put 0 3; get 3 1; jump 0", impl.FlowAssign, 0, "3; 3; 3"},
	} {
		checkTaintRow(t, row)
	}
}

func TestTaintOfWhatIsNotReached(t *testing.T) {
	for _, row := range []taintRow{
		{"LH/L", "jump 3; get 0 1; put 0 0; halt", impl.FlowFine, -1, ".; -; -; ."},
		{"LH/L", "get 0 1; jump 6; put 0 0; zero 0 2; load 1 0 0; store 0 0 0; halt", impl.FlowFine, -1, ".; 0; -; -; -; -; 0"},
		{"LH/L", "get 0 1; halt; put 0 0; loop 0 0; zero 0 0; halt", impl.FlowFine, -1, ".; 0; -; -; -; -"},
		// What is not reached does not make a register secret where it leads.
		{"LH/L", "jump 3; get 0 1; jump 3; put 0 0; halt", impl.FlowFine, -1, ".; -; -; .; ."},
		{"LH/L", "put 0 0; halt; get 0 1; jump 0", impl.FlowFine, -1, ".; .; -; -"},
		{"LH/L", "zero 1 2; jump 5; jump 5; get 0 1; jump 5; put 0 0; halt", impl.FlowFine, -1, ".; .; .; -; -; .; ."},
		{"LH/L", "jump 0; get 0 1; put 0 0; halt", impl.FlowFine, -1, ".; -; -; -"},
		{"LH/L", "halt; zero 0 1; get 0 1; zero 0 1; halt", impl.FlowFine, -1, ".; -; -; -; -"},
		// A branch reaches both, whatever its register is.
		{"LH/L", "const 0 0; zero 0 4; get 1 1; put 0 1; halt", impl.FlowAssign, 3, ".; .; .; 1; 1"},
		{"LH/L", "const 0 1; zero 0 3; halt; get 1 1; put 0 1; halt", impl.FlowAssign, 4, ".; .; .; .; 1; 1"},
		{"LH/L", "const 0 1; loop 0 3; halt; get 1 1; put 0 1; halt", impl.FlowAssign, 4, ".; .; .; .; 1; 1"},
	} {
		checkTaintRow(t, row)
	}
}

func TestTaintOfPaths(t *testing.T) {
	for _, row := range []taintRow{
		// Register 1 is secret on the path that does not jump, on the other, on both, and on none.
		{"LH/L", "get 0 0; zero 0 3; get 1 1; put 0 1; halt", impl.FlowAssign, 3, ".; .; .; 1; 1"},
		{"LH/L", "get 0 0; get 1 1; zero 0 4; const 1 0; put 0 1; halt", impl.FlowAssign, 4, ".; .; 1; 1; 1; 1"},
		{"LH/L", "get 0 0; zero 0 4; const 1 1; jump 5; get 1 1; put 0 1; halt", impl.FlowAssign, 5, ".; .; .; .; .; 1; 1"},
		{"LH/L", "get 0 0; zero 0 4; get 1 1; jump 5; const 1 1; put 0 1; halt", impl.FlowAssign, 5, ".; .; .; 1; .; 1; 1"},
		{"LH/L", "get 0 0; zero 0 4; get 1 1; jump 5; get 1 1; put 0 1; halt", impl.FlowAssign, 5, ".; .; .; 1; .; 1; 1"},
		{"LH/L", "get 0 0; zero 0 4; get 1 1; jump 5; get 1 1; put 1 1; halt", impl.FlowFine, -1, ".; .; .; 1; .; 1; 1"},
		{"LH/L", "get 0 0; get 1 1; zero 0 5; const 1 1; jump 6; get 1 0; put 0 1; halt", impl.FlowFine, -1, ".; .; 1; 1; .; 1; .; ."},
		{"LH/L", "get 0 0; get 1 1; zero 0 5; const 1 1; jump 6; release 1; put 0 1; halt", impl.FlowFine, -1, ".; .; 1; 1; .; 1; .; ."},
		// Different registers on the two paths, and a register of both.
		{"LH/L", "get 0 0; zero 0 4; get 1 1; jump 5; get 2 1; bin 3 4 1 2; put 1 3; halt", impl.FlowFine, -1, ".; .; .; 1; .; 1 2; 1 2 3; 1 2 3"},
		{"LH/L", "get 0 0; zero 0 4; get 1 1; jump 5; get 2 1; const 1 0; const 2 0; put 0 1; put 0 2; halt", impl.FlowFine, -1, ".; .; .; 1; .; 1 2; 2; .; .; ."},
		// By way of a loop's branch.
		{"LH/L", "get 1 1; const 0 2; loop 0 5; const 1 0; jump 5; put 1 1; halt", impl.FlowFine, -1, ".; 1; 1; 1; .; 1; 1"},
		{"LH/L", "get 1 1; const 0 2; loop 0 4; const 1 0; put 0 1; halt", impl.FlowAssign, 4, ".; 1; 1; 1; 1; 1"},
		// Both ways of a branch lead to the next instruction.
		{"LH/L", "get 1 1; zero 0 2; put 1 1; halt", impl.FlowFine, -1, ".; 1; 1; 1"},
		// The instruction on the path that joins later makes it secret before an instruction that was seen already.
		{"LH/L", "zero 5 3; put 0 1; halt; get 1 1; jump 1", impl.FlowAssign, 1, ".; 1; 1; .; 1"},
		{"LH/L", "zero 5 4; bin 2 4 1 1; put 0 2; halt; get 1 1; jump 1", impl.FlowAssign, 2, ".; 1; 1 2; 1 2; .; 1"},
	} {
		checkTaintRow(t, row)
	}
}

func TestTaintOfLoops(t *testing.T) {
	for _, row := range []taintRow{
		// In one round.
		{"LH/L", "const 9 2; put 0 0; get 0 1; loop 9 1; halt", impl.FlowAssign, 1, ".; 0; 0; 0; 0"},
		{"LH/L", "const 9 2; put 1 0; get 0 1; loop 9 1; halt", impl.FlowFine, -1, ".; 0; 0; 0; 0"},
		{"LH/L", "const 9 2; load 1 0 0; get 0 1; loop 9 1; halt", impl.FlowAddress, 1, ".; 0 1; 0 1; 0 1; 0 1"},
		{"LH/L", "const 9 2; fence; get 9 1; loop 9 1; halt", impl.FlowBranch, 3, ".; 9; 9; 9; 9"},
		{"LH/L", "const 9 2; zero 9 4; get 9 1; jump 1; halt", impl.FlowBranch, 1, ".; 9; 9; 9; 9"},
		// In two rounds, and in three.
		{"LH/L", "const 9 3; put 0 1; bin 1 4 0 0; get 0 1; loop 9 1; halt", impl.FlowAssign, 1, ".; 0 1; 0 1; 0 1; 0 1; 0 1"},
		{"LH/L", "const 9 3; put 0 2; bin 2 4 1 1; bin 1 4 0 0; get 0 1; loop 9 1; halt", impl.FlowAssign, 1, ".; 0 1 2; 0 1 2; 0 1 2; 0 1 2; 0 1 2; 0 1 2"},
		{"LH/L", "const 9 3; put 1 2; bin 2 4 1 1; bin 1 4 0 0; get 0 1; loop 9 1; halt", impl.FlowFine, -1, ".; 0 1 2; 0 1 2; 0 1 2; 0 1 2; 0 1 2; 0 1 2"},
		// The other way round, once is enough.
		{"LH/L", "const 9 3; put 0 2; get 0 1; bin 1 4 0 0; bin 2 4 1 1; loop 9 1; halt", impl.FlowAssign, 1, ".; 0 1 2; 0 1 2; 0 1 2; 0 1 2; 0 1 2; 0 1 2"},
		// It becomes public again within the round, before it is used.
		{"LH/L", "const 9 2; const 0 0; put 0 0; get 0 1; loop 9 1; halt", impl.FlowFine, -1, ".; 0; .; .; 0; 0"},
		{"LH/L", "const 9 2; get 0 1; put 1 0; const 0 0; loop 9 1; put 0 0; halt", impl.FlowFine, -1, ".; .; 0; 0; .; .; ."},
		{"LH/L", "const 9 2; release 0; put 0 0; get 0 1; loop 9 1; halt", impl.FlowFine, -1, ".; 0; .; .; 0; 0"},
		// Nothing makes a register secret, though it would remain so.
		{"LH/L", "const 9 2; bin 0 4 0 0; loop 9 1; put 0 0; halt", impl.FlowFine, -1, ".; .; .; .; ."},
		{"LH/L", "const 9 2; select 0 0 1 2; bin 1 4 0 2; bin 2 4 1 0; loop 9 1; put 0 0; halt", impl.FlowFine, -1, ".; .; .; .; .; .; ."},
		{"LH/L", "get 3 1; const 9 2; bin 0 4 0 1; bin 1 4 1 0; loop 9 2; put 0 0; halt", impl.FlowFine, -1, ".; 3; 3; 3; 3; 3; 3"},
		// A loop in a loop, and two that follow each other.
		{"LH/L", "const 9 2; const 10 2; put 0 0; bin 0 4 1 1; loop 10 2; get 1 1; loop 9 1; halt", impl.FlowAssign, 2, ".; 0 1; 0 1; 0 1; 0 1; 0 1; 0 1; 0 1"},
		{"LH/L", "const 9 2; get 0 1; loop 9 1; const 9 2; put 1 0; loop 9 4; halt", impl.FlowFine, -1, ".; 0; 0; 0; 0; 0; 0"},
		{"LH/L", "const 9 2; put 0 0; loop 9 1; const 9 2; get 0 1; loop 9 4; halt", impl.FlowFine, -1, ".; .; .; .; 0; 0; 0"},
		// Without an end, and with itself as the target.
		{"LH/L", "get 0 1; jump 1", impl.FlowFine, -1, ".; 0"},
		{"LH/L", "get 0 1; zero 1 1; halt", impl.FlowFine, -1, ".; 0; 0"},
		{"LH/L", "get 0 1; loop 1 1; jump 0", impl.FlowFine, -1, "0; 0; 0"},
		{"LH/L", "bin 0 4 0 1; get 1 1; jump 0", impl.FlowFine, -1, "0 1; 0 1; 0 1"},
	} {
		checkTaintRow(t, row)
	}
}

// relay returns code with a loop that hands a secret on from one register to the next in each round, to as many as possible.
func relay(size int) impl.Code {
	list := []impl.Instr{instr(impl.OpPut, 0, 13)}
	for r := 13; r > 0; r-- {
		list = append(list, instr(impl.OpBin, r, impl.ExprAdd, r-1, r-1))
	}
	list = append(list, instr(impl.OpGet, 0, 1))
	for len(list) < size-1 {
		list = append(list, instr(impl.OpFence))
	}
	return codeOf("LH/", append(list, instr(impl.OpJump, 0))...)
}

func TestTaintAtTheLimits(t *testing.T) {
	for _, row := range []taintRow{
		{"L/", "halt", impl.FlowFine, -1, "."}, {"H/", "halt", impl.FlowFine, -1, "."}, {"L/", "jump 0", impl.FlowFine, -1, "."}, {"X/HX", "jump 0", impl.FlowFine, -1, "."},
	} {
		checkTaintRow(t, row)
	}
	for _, size := range []int{16, 17, 399, 400} {
		c := relay(size)
		checkVerified(t, c)
		if got, at := impl.CheckCode(c); got != impl.FlowAssign || at != 0 {
			t.Errorf("CheckCode of a relay of %d = %d, %d", size, got, at)
		}
		c.Vars[0] = 1
		if taint := checkVerified(t, c); taintText(taint) != strings.Repeat("0 1 2 3 4 5 6 7 8 9 10 11 12 13; ", size-1)+"0 1 2 3 4 5 6 7 8 9 10 11 12 13" {
			t.Errorf("InferTaint of a relay of %d = %s", size, taintText(taint))
		}
		// A fence within the registers, and the last register is never secret.
		c.Vars[0] = 0
		c.List[3] = instr(impl.OpConst, 12, 7)
		if got, at := impl.CheckCode(c); got != impl.FlowFine || at != -1 {
			t.Errorf("CheckCode of a broken relay of %d = %d, %d", size, got, at)
		}
		checkVerified(t, c)
	}
	// Branches back and forth, so that everything leads everywhere.
	var list []impl.Instr
	for at := range 399 {
		switch at % 3 {
		case 0:
			list = append(list, instr(impl.OpZero, 0, at*7919%400))
		case 1:
			list = append(list, instr(impl.OpLoop, 0, at*104729%400))
		default:
			list = append(list, instr(impl.OpSelect, 1+at/3%13, 1+at%13, 1+at/2%13, 1+at/5%13))
		}
	}
	c := codeOf("LH/", append(list, instr(impl.OpJump, 0))...)
	checkVerified(t, c)
	c.List[398] = instr(impl.OpGet, 13, 1)
	taint := checkVerified(t, c)
	if len(taint) != 400 || taintText(taint[:1]) != "1 2 3 4 5 6 7 8 9 10 11 12 13" {
		t.Errorf("InferTaint of many branches = %s", taintText(taint))
	}
	// A leak in the last but one of the greatest code, and in the first one by way of all others.
	c = withInstr("LH/", 400, 0, instr(impl.OpGet, 13, 1))
	c.List[398] = instr(impl.OpPut, 0, 13)
	if got, at := impl.CheckCode(c); got != impl.FlowAssign || at != 398 {
		t.Errorf("CheckCode = %d, %d", got, at)
	}
	c = withInstr("LH/", 400, 399, instr(impl.OpJump, 0))
	c.List[0], c.List[1] = instr(impl.OpZero, 13, 1), instr(impl.OpGet, 13, 1)
	if got, at := impl.CheckCode(c); got != impl.FlowBranch || at != 0 {
		t.Errorf("CheckCode = %d, %d", got, at)
	}
	checkVerified(t, c)
}

func TestInvalidCodeIsNotVerified(t *testing.T) {
	codes := invalidCodes()
	for op := impl.OpConst; op <= impl.OpHalt; op++ {
		for i := range 4 {
			c := withInstr("LH/LH", 5, 2, leastInstr(op))
			*fieldOf(&c.List[2], i) = -1
			codes[opTable[op].name+" with -1 as field "+strconv.Itoa(i)] = c
			// What is not reached must be valid, too.
			c = withInstr("LH/LH", 5, 3, leastInstr(op))
			*fieldOf(&c.List[3], i) = 1 << 32
			c.List[0] = instr(impl.OpHalt)
			codes[opTable[op].name+" that is not reached, field "+strconv.Itoa(i)] = c
		}
	}
	codes["label 4"] = impl.Code{Vars: []int{4}, List: []impl.Instr{instr(impl.OpHalt)}}
	codes["label -1 of an array"] = impl.Code{Vars: []int{0}, Arrays: []int{-1}, List: []impl.Instr{instr(impl.OpHalt)}}
	codes["a release past the end of the registers"] = codeOf("L/", instr(impl.OpRelease, 14), instr(impl.OpHalt))
	codes["a release and no end"] = codeOf("L/", instr(impl.OpHalt), instr(impl.OpRelease, 0))
	codes["a leak and label 5"] = impl.Code{Vars: []int{1, 5}, List: []impl.Instr{instr(impl.OpGet, 0, 0), instr(impl.OpZero, 0, 2), instr(impl.OpRelease, 1), instr(impl.OpHalt)}}
	codes["401 instructions with a release"] = withInstr("L/", 401, 0, instr(impl.OpRelease, 0))
	codes["very many"] = withInstr("L/", veryDeep, 0, instr(impl.OpHalt))
	for what, c := range codes {
		if got, at := impl.CheckCode(c); got != impl.FlowInvalid || at != -1 {
			t.Errorf("%s: CheckCode = %d, %d", what, got, at)
		}
		if taint, ok := impl.InferTaint(c); ok || len(taint) != 0 {
			t.Errorf("%s: InferTaint = %s, %v", what, taintText(taint), ok)
		}
		if impl.CodeReleases(c) {
			t.Errorf("%s: CodeReleases is true", what)
		}
		empty := make([][]bool, len(c.List))
		public, secret := slices.Clone(empty), slices.Clone(empty)
		for at := range c.List {
			public[at], secret[at] = make([]bool, 14), slices.Repeat([]bool{true}, 14)
		}
		for _, taint := range [][][]bool{nil, {}, empty, public, secret, {nil}, {make([]bool, 14)}} {
			if impl.CheckTaint(c, taint) {
				t.Errorf("%s: CheckTaint accepts a map with %d rows", what, len(taint))
			}
		}
	}
}

// acceptRow has code, and maps that are accepted for it and that are not.
type acceptRow struct {
	declared, list string
	yes, no        []string
}

func TestAcceptedMaps(t *testing.T) {
	for _, row := range []acceptRow{
		{"LH/L", "halt", []string{".", "0", "3 7 13", "0 1 2 3 4 5 6 7 8 9 10 11 12 13"}, []string{"-", ".; .", ".; -", "-; ."}},
		// Greater maps, as long as nothing leaks, and less ones.
		{"LH/L", "get 0 1; put 1 0; halt", []string{".; 0; 0", "0; 0; 0", "5; 0 5; 0 5", ".; 0 1; 0 1", ".; 0 1; 0 1 2", "0 1; 0 1 2; 0 1 2 3", ".; 0; 0 13"}, []string{
			".; .; 0", ".; 0; .", ".; .; .", "0; .; .", ".; 1; 1", "5; 0; 0", "5; 0; 0 5", "5; 0 5; 0", "-; 0; 0", ".; -; 0", ".; 0; -", "-; -; -", ".; 0", "0; 0", ".; 0; 0; 0", ".; 0; 0; -", "-; .; 0; 0"}},
		// What is greater may leak.
		{"LH/L", "get 0 1; put 0 1; halt", []string{".; 0; 0", "0; 0; 0", "2; 0 2; 0 2"}, []string{"1; 0 1; 0 1", ".; 0 1; 0 1", "0 1 2; 0 1 2; 0 1 2"}},
		{"LH/L", "load 0 0 1; halt", []string{".; .", "0; .", ".; 0", "2; 2"}, []string{"1; 0 1", "1; 1", "0 1; 0 1", "2; ."}},
		{"LH/L", "store 0 1 2; halt", []string{".; .", "0; 0"}, []string{"1; 1", "2; 2", "1 2; 1 2", "0; ."}},
		{"LH/H", "store 0 1 2; halt", []string{".; .", "0; 0", "2; 2"}, []string{"1; 1", "1 2; 1 2", "2; ."}},
		{"LH/L", "zero 3 1; halt", []string{".; .", "0; 0", ".; 3"}, []string{"3; 3", "0 3; 0 3", "0; ."}},
		{"LH/L", "loop 3 1; halt", []string{".; .", "0; 0", ".; 3"}, []string{"3; 3", "0 3; 0 3", "0; ."}},
		{"LH/L", "const 3 1; halt", []string{".; .", "3; .", "3; 3", "3 4; 4"}, []string{"4; .", "3 4; 3"}},
		{"LH/L", "release 3; halt", []string{".; .", "3; .", "3; 3", "3 4; 4"}, []string{"4; .", "3 4; 3"}},
		{"LH/L", "bin 3 4 1 2; halt", []string{".; .", "1; 1 3", "2; 2 3", "1 2; 1 2 3", "3; .", "3; 3", "4; 4"}, []string{"1; 1", "2; 2", "1; 3", "1 2; 1 2", "4; ."}},
		{"LH/L", "select 0 1 2 3; halt", []string{".; .", "1; 0 1", "2; 0 2", "3; 0 3", "0; ."}, []string{"1; 1", "2; 2", "3; 3", "1; 0", "1 2 3; 1 2 3"}},
		{"LH/L", "put 1 5; halt", []string{".; .", "5; 5", "5; 1 5", "1; 1 5"}, []string{"5; .", "5; 1", "1; ."}},
		// Rows for what is not reached: they must be covered and have no result.
		{"LH/L", "jump 3; get 0 1; put 0 0; halt", []string{".; -; -; .", ".; -; .; .", "0; -; -; 0", "3; -; .; 3", ".; -; 1; 1", ".; -; -; 4"}, []string{".; .; .; .", ".; .; 0; .", ".; .; 0; 0", ".; -; 0; 0", ".; .; -; .", ".; -; 1; .", "-; -; -; ."}},
		{"LH/L", "halt; fence; halt", []string{".; -; -", ".; -; .", ".; .; .", ".; 1; 1", ".; 1; 1 2", "3; 1; 1"}, []string{".; .; -", ".; 1; 2", ".; 1; .", "-; .; ."}},
		{"LH/L", "halt; get 0 1; jump 0", []string{".; -; -", "0; .; 0", "0; -; 0", ".; -; ."}, []string{".; .; 0", ".; .; .", ".; -; 0", ".; .; -"}},
		{"LH/L", "halt; zero 0 1; halt", []string{".; -; -", ".; .; .", ".; -; 0"}, []string{".; 0; 0", ".; .; -", "-; .; ."}},
		// Both that may follow a branch, and a loop.
		{"LH/L", "get 1 1; zero 0 3; const 1 0; halt", []string{".; 1; 1; 1"}, []string{".; 1; 1; .", ".; 1; .; 1", ".; 1; .; .", ".; .; .; .", ".; 1; 1; -", ".; 1; -; 1"}},
		{"LH/L", "const 9 2; put 1 0; get 0 1; loop 9 1; halt", []string{".; 0; 0; 0; 0", "0; 0; 0; 0; 0", "9; 0; 0; 0; 0", ".; 0; 0; 0; 0 9", ".; 0 5; 0 5; 0 5; 0 5"}, []string{".; .; .; 0; 0", ".; .; .; 0; .", ".; 0; 0; 0; .", ".; .; 0; 0; 0", ".; 0; .; 0; 0", ".; 0 9; 0 9; 0 9; 0 9", ".; .; .; .; ."}},
		// A register that would remain secret in a loop if it were.
		{"LH/L", "bin 0 4 0 0; jump 0", []string{".; .", "0; 0", "5; 5"}, []string{"0; .", ".; 0"}},
		{"LH/L", "jump 0", []string{".", "0"}, []string{"-"}},
		// No map is accepted.
		{"LH/L", "get 0 1; put 0 0; halt", nil, []string{".; 0; 0", ".; .; .", ".; .; 0", ".; 0; .", "0; 0; 0", "-; 0; 0", "-; -; -", ".; -; -", "0 1; 0 1; 0 1"}},
		{"LH/L", "get 0 1; zero 0 2; halt", nil, []string{".; 0; 0", ".; .; .", "-; -; -", ".; -; ."}},
		{"LH/L", "get 0 1; load 0 0 0; halt", nil, []string{".; 0; 0", ".; .; .", ".; .; 0"}},
	} {
		c := codeIn(t, row.declared, row.list)
		for i, list := range [][]string{row.no, row.yes} {
			for _, text := range list {
				if got := impl.CheckTaint(c, taintIn(text)); got != (i == 1) {
					t.Errorf("CheckTaint of %s %s and %s = %v", row.declared, row.list, text, got)
				}
				if plain := plainlyAccepted(c, taintIn(text)); plain != (i == 1) {
					t.Errorf("the plain result of %s %s and %s is %v", row.declared, row.list, text, plain)
				}
			}
		}
		if got, _ := impl.CheckCode(c); got == impl.FlowFine != (len(row.yes) > 0) {
			t.Errorf("CheckCode of %s %s = %d, but %d maps are accepted", row.declared, row.list, got, len(row.yes))
		}
	}
}

func TestMapsOfAnotherForm(t *testing.T) {
	c := codeIn(t, "LH/L", "get 0 1; jump 3; fence; put 1 0; halt")
	taint, ok := impl.InferTaint(c)
	if !ok || taintText(taint) != ".; 0; -; 0; 0" {
		t.Fatalf("InferTaint = %s, %v", taintText(taint), ok)
	}
	check := func(what string, wrong [][]bool, want bool) {
		t.Helper()
		if got := impl.CheckTaint(c, wrong); got != want {
			t.Errorf("CheckTaint of a map with %s = %v", what, got)
		}
	}
	check("nothing", nil, false)
	check("no rows", [][]bool{}, false)
	for size := range len(taint) {
		check("rows that are missing at the end", taint[:size], false)
		check("rows that are missing at the beginning", taint[size+1:], false)
		check("a row that is missing", slices.Delete(clonedTaint(taint), size, size+1), false)
	}
	for at := range taint {
		check("a row that is there twice", slices.Insert(clonedTaint(taint), at, taint[at]), false)
		check("an additional empty row", slices.Insert(clonedTaint(taint), at, []bool{}), false)
		for _, size := range []int{0, 1, 2, 12, 13, 14, 15, 16, 28, veryDeep} {
			wrong := clonedTaint(taint)
			wrong[at] = make([]bool, size)
			copy(wrong[at], taint[at])
			// Where there is no row, one in which nothing is secret is covered by the next one.
			check("a row of length "+strconv.Itoa(size)+" at "+strconv.Itoa(at), wrong, size == 14 || size == 0 && at == 2)
		}
	}
	check("an empty row and one with no element", [][]bool{taint[0], taint[1], {}, taint[3], taint[4]}, true)
	check("nil as a row and one with no element", [][]bool{taint[0], taint[1], nil, taint[3], taint[4]}, true)
	check("one more row", append(clonedTaint(taint), make([]bool, 14)), false)
	check("one more row that is empty", append(clonedTaint(taint), nil), false)
	check("very many rows", make([][]bool, veryDeep), false)
	// The rows may share memory.
	row := slices.Repeat([]bool{false}, 20)
	row[0] = true
	check("the same row everywhere", [][]bool{row[:14], row[:14], row[:14], row[:14], row[:14]}, true)
	check("rows that overlap", [][]bool{row[1:15], row[:14], row[:0], row[:14], row[:14]}, true)
	check("rows that overlap wrongly", [][]bool{row[1:15], row[1:15], row[:0], row[:14], row[:14]}, false)
}

// verifyChoices are instructions in which only the registers 0 and 1 occur.
func verifyChoices() []impl.Instr {
	list := []impl.Instr{instr(impl.OpHalt), instr(impl.OpJump, 0), instr(impl.OpJump, 1), instr(impl.OpJump, 2)}
	// Those so far may be the last.
	return append(list, instr(impl.OpConst, 0, 1), instr(impl.OpGet, 0, 0), instr(impl.OpGet, 0, 1), instr(impl.OpGet, 1, 1), instr(impl.OpPut, 0, 0), instr(impl.OpPut, 1, 0), instr(impl.OpLoad, 1, 0, 0), instr(impl.OpLoad, 0, 1, 0),
		instr(impl.OpStore, 0, 0, 1), instr(impl.OpStore, 1, 1, 0), instr(impl.OpBin, 0, 4, 1, 0), instr(impl.OpBin, 1, 4, 0, 0), instr(impl.OpBin, 0, 5, 1, 1), instr(impl.OpSelect, 0, 0, 0, 1), instr(impl.OpSelect, 1, 0, 1, 1), instr(impl.OpSelect, 1, 1, 0, 1),
		instr(impl.OpZero, 0, 0), instr(impl.OpZero, 1, 2), instr(impl.OpLoop, 0, 1), instr(impl.OpLoop, 1, 2), instr(impl.OpRelease, 0), instr(impl.OpFence))
}

func TestAllSmallMaps(t *testing.T) {
	choices := verifyChoices()
	rows := []string{"", publicRow, "H" + publicRow[1:], "LH" + publicRow[2:], "HH" + publicRow[2:]}
	// All maps with three rows of these.
	var maps [][]string
	for _, first := range rows {
		for _, second := range rows {
			for _, third := range rows {
				maps = append(maps, []string{first, second, third})
			}
		}
	}
	count, accepted := 0, 0
	for _, first := range choices {
		for _, second := range choices {
			for _, last := range choices[:4] {
				c := codeOf("LH/LH", first, second, last)
				checkVerified(t, c)
				count++
				least := plainTaint(c)
				for _, rows := range maps {
					taint := taintOf(rows)
					want := plainlyAccepted(c, taint)
					if got := impl.CheckTaint(c, taint); got != want {
						t.Errorf("CheckTaint of %q and %s = %v", plainCodeText(c), taintText(taint), got)
					}
					if want {
						accepted++
					}
					// The least map is less than every other one.
					if plainlyCovers(c, rows) && slices.ContainsFunc([]int{0, 1, 2}, func(at int) bool { return plainJoin(rows[at], least[at]) != rows[at] }) {
						t.Errorf("%s covers %q, and the least map is %s", taintText(taint), plainCodeText(c), taintText(taintOf(least)))
					}
				}
			}
		}
	}
	if count != 26*26*4 || accepted < 10000 {
		t.Errorf("%d codes and %d maps that are accepted were tried", count, accepted)
	}
}

// mended returns valid code in which instructions that have a result are replaced until none has.
// A release makes a register public that must be so, if there may be releases.
func (s *source) mended(c impl.Code, releases bool) impl.Code {
	c = clonedCode(c)
	for at := range c.List {
		if c.List[at].Op == impl.OpRelease && !releases {
			c.List[at] = instr(impl.OpFence)
		}
	}
	for {
		result, at := plainlyChecked(c, plainTaint(c))
		if result == impl.FlowFine {
			return c
		}
		in := c.List[at]
		switch {
		case at > 0 && s.below(2) == 0 && releases && (in.Op == impl.OpZero || in.Op == impl.OpLoop):
			c.List[at] = instr(impl.OpRelease, in.A)
		case in.Op == impl.OpPut && s.below(2) == 0:
			c.List[at] = instr(impl.OpConst, in.B, s.below(256))
		default:
			c.List[at] = instr(impl.OpFence)
		}
	}
}

// withFewSecrets returns code with other labels, of which few are secret.
func (s *source) withFewSecrets(c impl.Code) impl.Code {
	p := s.mostlyPublic(impl.Program{Vars: c.Vars, Arrays: c.Arrays})
	return impl.Code{Vars: p.Vars, Arrays: p.Arrays, List: slices.Clone(c.List)}
}

// manyFlows returns valid code of which more instructions read and write the memory.
func (s *source) manyFlows(size int) impl.Code {
	c := s.someCode(size)
	ops := []int{impl.OpGet, impl.OpGet, impl.OpPut, impl.OpPut, impl.OpBin, impl.OpLoad, impl.OpStore}
	if len(c.Arrays) == 0 {
		ops = ops[:5]
	}
	for at := range len(c.List) - 1 {
		if s.below(2) == 0 {
			c.List[at] = s.someInstr(c, at, ops[s.below(len(ops))])
		}
	}
	return c
}

// someVerified returns valid code that may leak, or does not.
func (s *source) someVerified(i int) impl.Code {
	var c impl.Code
	switch i % 3 {
	case 0:
		c = s.someCode(40)
	case 1:
		c = s.withFewSecrets(s.manyJumps(40))
	default:
		c = s.manyFlows(40)
	}
	if s.below(2) == 0 {
		c = s.mended(c, s.below(2) == 0)
	}
	return c
}

func TestManyVerifiedCodes(t *testing.T) {
	numbers := source(91)
	seen := map[string]int{}
	for i := range 12000 {
		c := numbers.someVerified(i)
		taint := checkVerified(t, c)
		result, at := impl.CheckCode(c)
		seen[strconv.Itoa(result)]++
		if at > 0 && slices.Contains(plainReach(c)[:at], false) {
			seen["a leak behind what is not reached"]++
		}
		if taint != nil && strings.Contains(impl.FormatTaint(taint), "H") {
			seen["a secret"]++
		}
		if impl.CodeReleases(c) {
			seen["releases"]++
		}
		for range 6 {
			if taint == nil {
				break
			}
			other := numbers.changedTaint(taint)
			want := plainlyAccepted(c, other)
			if got := impl.CheckTaint(c, other); got != want {
				t.Errorf("CheckTaint of %q and %s = %v, where %s is the least map", plainCodeText(c), taintText(other), got, taintText(taint))
			}
			seen["accepted "+strconv.FormatBool(want)]++
		}
	}
	for what, least := range map[string]int{"0": 5000, "1": 200, "3": 300, "4": 300, "a secret": 2000, "releases": 1500, "a leak behind what is not reached": 200, "accepted true": 5000, "accepted false": 5000} {
		if seen[what] < least {
			t.Errorf("%s was seen only %d times", what, seen[what])
		}
	}
}

// changedTaint returns a map that differs from another one in one register, in a row, or in a register of all rows.
func (s *source) changedTaint(taint [][]bool) [][]bool {
	other := clonedTaint(taint)
	at, r := s.below(len(other)), s.below(14)
	switch kind := s.below(6); {
	case kind == 0 && len(other[at]) == 14:
		other[at] = nil
	case kind == 0:
		other[at] = make([]bool, 14)
	case kind == 1:
		other[at] = make([]bool, []int{0, 13, 14, 15}[s.below(4)])
	case kind < 4:
		for _, row := range other {
			if len(row) == 14 {
				row[r] = true
			}
		}
	case len(other[at]) == 14:
		other[at][r] = !other[at][r]
	}
	return other
}

func TestTextsOfMaps(t *testing.T) {
	for text, want := range map[string]string{
		".": publicRow + "\n", "-": "\n", "-; -": "\n\n", ".; -": publicRow + "\n\n", "-; .": "\n" + publicRow + "\n", "0": "HLLLLLLLLLLLLL\n", "13": "LLLLLLLLLLLLLH\n", "1 12": "LHLLLLLLLLLLHL\n", "-; 5; -; 6; .": "\nLLLLLHLLLLLLLL\n\nLLLLLLHLLLLLLL\n" + publicRow + "\n",
		"0 1 2 3 4 5 6 7 8 9 10 11 12 13": "HHHHHHHHHHHHHH\n", "0 2 4 6 8 10 12": "HLHLHLHLHLHLHL\n", "1 3 5 7 9 11 13; -; -; -": "LHLHLHLHLHLHLH\n\n\n\n",
	} {
		taint := taintIn(text)
		if got := impl.FormatTaint(taint); got != want {
			t.Errorf("FormatTaint of %s = %q, want %q", text, got, want)
		}
		if back, ok := impl.ParseTaint(want); !ok || taintText(back) != text {
			t.Errorf("ParseTaint of %q = %s, %v, want %s", want, taintText(back), ok, text)
		}
		for at := range taint {
			if len(taint[at]) == 0 {
				taint[at] = []bool{}
			}
		}
		if got := impl.FormatTaint(taint); got != want {
			t.Errorf("FormatTaint of %s with rows without elements = %q, want %q", text, got, want)
		}
	}
	for r := range 14 {
		row := []byte(publicRow)
		row[r] = 'H'
		if got := impl.FormatTaint(taintIn(strconv.Itoa(r))); got != string(row)+"\n" {
			t.Errorf("FormatTaint of register %d = %q", r, got)
		}
	}
}

func TestMapsWithoutText(t *testing.T) {
	check := func(what string, taint [][]bool) {
		t.Helper()
		if got := impl.FormatTaint(taint); got != "" {
			t.Errorf("FormatTaint of %s = %.100q", what, got)
		}
	}
	check("nil", nil)
	check("no rows", [][]bool{})
	for _, size := range []int{1, 2, 7, 12, 13, 15, 16, 28, 256 + 14, veryDeep} {
		for _, secret := range []bool{false, true} {
			row := slices.Repeat([]bool{secret}, size)
			good := make([]bool, 14)
			what := "a row of length " + strconv.Itoa(size)
			check(what, [][]bool{row})
			check(what+" at the front", [][]bool{row, good, nil})
			check(what+" in the middle", [][]bool{good, row, nil})
			check(what+" at the end", [][]bool{good, nil, row})
		}
	}
	for _, row := range [][]bool{nil, {}, make([]bool, 14), slices.Repeat([]bool{true}, 14)} {
		for _, size := range []int{401, 402, 800, 1000, veryDeep} {
			check(strconv.Itoa(size)+" rows", slices.Repeat([][]bool{row}, size))
		}
		line := strings.Repeat("L", len(row))
		if len(row) > 0 && row[0] {
			line = "HHHHHHHHHHHHHH"
		}
		for _, size := range []int{1, 399, 400} {
			want := strings.Repeat(line+"\n", size)
			if got := impl.FormatTaint(slices.Repeat([][]bool{row}, size)); got != want {
				t.Errorf("FormatTaint of %d rows of %q = %.100q", size, line, got)
			}
			if taint, ok := impl.ParseTaint(want); !ok || len(taint) != size || impl.FormatTaint(taint) != want {
				t.Errorf("ParseTaint of %d rows of %q has %d rows, %v", size, line, len(taint), ok)
			}
		}
		for _, size := range []int{401, 402, 1000, veryDeep} {
			checkNoTaint(t, strings.Repeat(line+"\n", size))
		}
	}
}

// checkNoTaint checks that text is not the text of a taint map.
func checkNoTaint(t *testing.T, text string) {
	t.Helper()
	if taint, ok := impl.ParseTaint(text); ok || len(taint) != 0 {
		t.Errorf("ParseTaint(%.100q) has %d rows, %v", text, len(taint), ok)
	}
}

func TestTextsOfNoMap(t *testing.T) {
	for _, text := range []string{
		"", " ", "L", "H", "LH", "L\n", "H\n", "LH\n", publicRow, "\n" + publicRow, publicRow + "\n" + publicRow, publicRow + "L\n", publicRow[1:] + "\n", publicRow + publicRow + "\n", publicRow + "\n\n" + "L",
		" \n", "\n ", "\n\n ", "\r\n", publicRow + "\r\n", publicRow + "\r", "\r", "\t\n", "\x00\n", "\x00", publicRow + "\x00\n", publicRow[1:] + "\x00\n", publicRow + " \n", " " + publicRow + "\n", publicRow[1:] + " \n", " " + publicRow[1:] + "\n", publicRow[:7] + " " + publicRow[7:] + "\n",
		"-\n", ".\n", "0\n", "-", "LLLLLLL\nLLLLLLL\n", "LLLLLLLLLLLLL\nL\n", publicRow + ";" + publicRow + "\n", publicRow + "\v", publicRow + "\u2028" + publicRow + "\n", publicRow + "\u0085\n", "\ufeff" + publicRow + "\n", "\ufeff\n",
		strings.ToLower(publicRow) + "\n", strings.Repeat("h", 14) + "\n", strings.Repeat("\u0141", 14) + "\n", strings.Repeat("\u0141", 7) + "\n", strings.Repeat("\u022c", 7) + "\n", strings.Repeat("\xcc", 14) + "\n", strings.Repeat("\uff2c", 14) + "\n",
		"code L/\nhalt\n", strings.Repeat("0", 14) + "\n", strings.Repeat("1", 14) + "\n", strings.Repeat("U", 14) + "\n", strings.Repeat("X", 14) + "\n", strings.Repeat("L", veryDeep), strings.Repeat("L", veryDeep) + "\n", strings.Repeat(publicRow, veryDeep), strings.Repeat(" ", veryDeep),
		strings.Repeat("\n", 400) + "L", strings.Repeat("\n", 401), strings.Repeat("\n", 400) + publicRow + "\n",
	} {
		checkNoTaint(t, text)
	}
	// Any other byte, at any place of a row.
	for b := range 256 {
		for at := range 15 {
			line := []byte(publicRow + "\n")
			line[at] = byte(b)
			text := "\nHHHHHHHHHHHHHH\n" + string(line) + "\n"
			if at < 14 && (b == 'L' || b == 'H') || at == 14 && b == '\n' {
				if taint, ok := impl.ParseTaint(text); !ok || impl.FormatTaint(taint) != text {
					t.Errorf("ParseTaint(%q) = %s, %v", text, taintText(taint), ok)
				}
				continue
			}
			checkNoTaint(t, text)
		}
	}
	// Every beginning of a text that does not end with a newline.
	text := "\n" + publicRow + "\nHHLLHHLLHHLLHH\n\n" + publicRow + "\n"
	for size := range len(text) {
		if size > 0 && text[size-1] == '\n' {
			if taint, ok := impl.ParseTaint(text[:size]); !ok || impl.FormatTaint(taint) != text[:size] || len(taint) != strings.Count(text[:size], "\n") {
				t.Errorf("ParseTaint(%q) = %s, %v", text[:size], taintText(taint), ok)
			}
		} else {
			checkNoTaint(t, text[:size])
		}
	}
	// A newline more is a row more, unless it is within a row.
	for at := range len(text) + 1 {
		more := text[:at] + "\n" + text[at:]
		if at == len(text) || text[at] == '\n' || at == 0 || text[at-1] == '\n' {
			if taint, ok := impl.ParseTaint(more); !ok || impl.FormatTaint(taint) != more || len(taint) != 6 {
				t.Errorf("ParseTaint(%q) = %s, %v", more, taintText(taint), ok)
			}
		} else {
			checkNoTaint(t, more)
		}
	}
}

func TestMapsAreReadBack(t *testing.T) {
	numbers := source(92)
	for range 2000 {
		var rows []string
		for range 1 + numbers.below(30) {
			letters := []byte(publicRow)
			for r := range letters {
				letters[r] = "LH"[numbers.below(2)]
			}
			rows = append(rows, string(letters[:14*numbers.below(2)]))
		}
		text := strings.Join(rows, "\n") + "\n"
		if got := impl.FormatTaint(taintOf(rows)); got != text {
			t.Errorf("FormatTaint = %q, want %q", got, text)
		}
		if taint, ok := impl.ParseTaint(text); !ok || !reflect.DeepEqual(taintOf(rows), taint) && taintText(taint) != taintText(taintOf(rows)) {
			t.Errorf("ParseTaint(%q) = %s, %v", text, taintText(taint), ok)
		}
		// What is read from a changed text has that text.
		changed := []byte(text)
		at := numbers.below(len(changed))
		changed[at] = "LHX\n "[numbers.below(5)]
		if numbers.below(3) == 0 {
			changed = slices.Delete(changed, at, at+1)
		}
		taint, ok := impl.ParseTaint(string(changed))
		if got := impl.FormatTaint(taint); ok && got != string(changed) || !ok && len(taint) != 0 {
			t.Errorf("ParseTaint(%q) = %s, %v", changed, taintText(taint), ok)
		}
	}
}

func TestCodeReleases(t *testing.T) {
	for list, want := range map[string]bool{
		"halt": false, "jump 0": false, "release 0; halt": true, "release 13; jump 0": true, "fence; release 3; halt": true, "get 0 1; put 1 0; halt": false, "release 0; release 1; halt": true, "zero 0 2; release 0; halt": true,
		// It need not be reached.
		"halt; release 0; halt": true, "jump 2; release 0; halt": true, "jump 0; release 0; jump 1": true, "halt; fence; halt": false,
		"const 0 9; get 1 1; put 0 1; load 2 0 1; store 0 2 1; bin 3 10 2 1; select 4 3 2 1; zero 0 8; loop 0 9; fence; halt": false,
	} {
		if got := impl.CodeReleases(codeIn(t, "LH/L", list)); got != want {
			t.Errorf("CodeReleases of %s = %v", list, got)
		}
	}
	for op := impl.OpConst; op <= impl.OpHalt; op++ {
		for _, at := range []int{0, 1, 200, 398} {
			if got := impl.CodeReleases(withInstr("L/L", 400, at, leastInstr(op))); got != (op == 11) {
				t.Errorf("CodeReleases with %s at %d = %v", opTable[op].name, at, got)
			}
		}
	}
}

// plainEventsOf returns the events of at most that many instructions, and whether the code halts by then.
func plainEventsOf(c impl.Code, m impl.Memory, steps int) ([]impl.Event, bool) {
	s := impl.Machine{Regs: make([]int, 14), Mem: clonedMemory(m)}
	var events []impl.Event
	for range steps {
		halts := c.List[s.Pc].Op == impl.OpHalt
		events = append(events, plainStep(c, &s)...)
		if halts {
			return events, true
		}
	}
	return events, false
}

// checkNoLeak checks that the traces of two memories that agree on what is public are equal, up to the first release of different values, if there is one.
// It returns whether there is none, and whether the code halts soon.
func checkNoLeak(t *testing.T, c impl.Code, m impl.Memory, n impl.Memory) (bool, bool) {
	t.Helper()
	first, halts := plainEventsOf(c, m, 500)
	second, haltsToo := plainEventsOf(c, n, 500)
	for i := range min(len(first), len(second)) {
		if first[i] == second[i] {
			continue
		}
		if first[i].Kind != impl.EventRelease || second[i].Kind != impl.EventRelease || !impl.CodeReleases(c) {
			t.Errorf("%q has the trace %s with %s, and %s with %s", plainCodeText(c), plainTrace(first), memoryText(m), plainTrace(second), memoryText(n))
		}
		return false, halts && haltsToo
	}
	if halts != haltsToo || len(first) != len(second) {
		t.Errorf("%q has %d events with %s, and %d with %s", plainCodeText(c), len(first), memoryText(m), len(second), memoryText(n))
	}
	if !halts {
		return true, false
	}
	p := impl.Program{Vars: c.Vars, Arrays: c.Arrays}
	out, trace, ok := impl.RunCode(c, m)
	other, others, okToo := impl.RunCode(c, n)
	if !ok || !okToo || plainTrace(trace) != plainTrace(others) {
		t.Errorf("%q has the trace %s, %v with %s, and %s, %v with %s", plainCodeText(c), plainTrace(trace), ok, memoryText(m), plainTrace(others), okToo, memoryText(n))
	}
	if kept(p, out, isSecret) != kept(p, other, isSecret) {
		t.Errorf("%q makes %s of %s, and %s of %s", plainCodeText(c), memoryText(out), memoryText(m), memoryText(other), memoryText(n))
	}
	return true, true
}

func TestVerifiedCodeLeaksNothingButReleases(t *testing.T) {
	numbers := source(93)
	seen := map[string]int{}
	for i := range 6000 {
		c := numbers.someVerified(i)
		if result, _ := impl.CheckCode(c); result != impl.FlowFine {
			continue
		}
		p := impl.Program{Vars: c.Vars, Arrays: c.Arrays}
		for range 4 {
			m := numbers.someMemory(p)
			n := numbers.changedAt(p, m, isSecret)
			if memoryText(m) == memoryText(n) {
				continue
			}
			equal, halts := checkNoLeak(t, c, m, n)
			if seen["tried"]++; !equal {
				seen["different releases"]++
			}
			if !halts {
				seen["endless"]++
				continue
			}
			out, trace, _ := impl.RunCode(c, m)
			if other, _, _ := impl.RunCode(c, n); memoryText(out) != memoryText(other) && memoryText(out) != memoryText(m) {
				seen["computed"]++
			}
			if len(plainlyProjected(trace)) > 0 {
				seen["reads, writes or releases"]++
			}
			if impl.CodeReleases(c) {
				seen["with releases"]++
			}
		}
	}
	for what, least := range map[string]int{"tried": 8000, "different releases": 200, "endless": 500, "computed": 2000, "reads, writes or releases": 2000, "with releases": 2000} {
		if seen[what] < least {
			t.Errorf("%s was seen only %d times", what, seen[what])
		}
	}
}

func TestVerifiedCodeThatDoesNotHalt(t *testing.T) {
	// Traces are equal until the execution is broken off, and neither has a result.
	for _, list := range []string{"get 0 1; put 1 0; jump 0", "get 0 1; bin 1 4 0 0; put 1 1; load 2 0 3; store 1 3 1; zero 3 0; halt", "const 0 0; loop 0 1; get 1 1; zero 2 0; halt"} {
		c := codeIn(t, "LH/LH", list)
		checkVerified(t, c)
		m, n := memoryIn("1 2/3 4 5 6/7 8 9 10"), memoryIn("1 77/3 4 5 6/77 66 55 44")
		if equal, halts := checkNoLeak(t, c, m, n); !equal || halts {
			t.Errorf("%s: %v, %v", list, equal, halts)
		}
		for _, memory := range []impl.Memory{m, n} {
			if _, trace, ok := impl.RunCode(c, memory); ok || len(trace) != 0 {
				t.Errorf("%s halts with %s", list, memoryText(memory))
			}
		}
	}
}

func TestCodeThatLeaksIsNotVerified(t *testing.T) {
	// What differs in the trace or in the public part of the memory is not accepted.
	numbers := source(95)
	leaks := 0
	for range 8000 {
		c := numbers.manyFlows(20)
		p := impl.Program{Vars: c.Vars, Arrays: c.Arrays}
		m := numbers.someMemory(p)
		n := numbers.changedAt(p, m, isSecret)
		first, halts := plainEventsOf(c, m, 500)
		second, haltsToo := plainEventsOf(c, n, 500)
		if impl.CodeReleases(c) || !halts || !haltsToo {
			continue
		}
		out, _, _ := impl.RunCode(c, m)
		other, _, _ := impl.RunCode(c, n)
		if plainTrace(first) == plainTrace(second) && kept(p, out, isSecret) == kept(p, other, isSecret) {
			continue
		}
		leaks++
		if result, at := impl.CheckCode(c); result == impl.FlowFine || at < 0 || impl.CheckTaint(c, taintOf(plainTaint(c))) {
			t.Errorf("%q leaks, but CheckCode = %d, %d", plainCodeText(c), result, at)
		}
	}
	if leaks < 150 {
		t.Errorf("only %d leaks were tried", leaks)
	}
}

func TestSecureCodeIsVerified(t *testing.T) {
	check := func(p impl.Program) bool {
		t.Helper()
		c, ok := impl.CompileSecure(p)
		if !ok {
			return false
		}
		taint := checkVerified(t, c)
		if result, at := impl.CheckCode(c); result != impl.FlowFine || at != -1 || taint == nil || !impl.CheckTaint(c, taint) {
			t.Errorf("the secure code of %q, %q, has %d, %d and the map %s", impl.FormatProgram(p), plainCodeText(c), result, at, taintText(taint))
		}
		if impl.CodeReleases(c) == impl.ReleaseFree(p) {
			t.Errorf("the secure code of %q, %q, has releases or not", impl.FormatProgram(p), plainCodeText(c))
		}
		// What Linearize returns is a program itself.
		q, _ := impl.Linearize(p)
		if plain, _ := impl.CompileProgram(q); !impl.CheckTaint(plain, taint) {
			t.Errorf("the code of %q does not have the map %s", impl.FormatProgram(q), taintText(taint))
		}
		return true
	}
	for _, text := range []string{
		"LHH/H/ifb{c:=P[b];}{P[c]:=a;}", "L//", "H//a:=1;", "LH//ifb{b:=1;}{}", "LH//b!=b;", "LH//a!=b;b!=(b*2);ifb{b:=a;}{}", "LH/H/P[b]:=b;", "LH/LH/Q[a]:=P[a];b:=Q[b];", "LH//repeat3{ifb{b:=(b-1);}{b:=a;}}", "LH/H/repeat2{repeat2{repeat3{ifb{P[b]:=(P[a]+1);}{}}}}",
		"HHH/HH/ifa{ifb{P[c]:=1;}{Q[c]:=2;}}{c:=(P[a]+Q[b]);}", "LH//ifa{b:=1;}{b:=2;}", "LLH/L/ifa{b:=P[a];}{P[b]:=a;}", "LHU//ifa{repeat2{c:=(a+1);}}{a:=1;}", "LX/X/repeat3{ifb{P[b]:=a;}{b:=P[a];}}", linearText, compileText,
	} {
		if !check(parsed(t, text)) {
			t.Errorf("%q has no secure code", text)
		}
	}
	numbers := source(94)
	tried, released := 0, 0
	for i := range 5000 {
		p := numbers.someSecretProgram(6)
		if i%3 == 0 {
			p = numbers.mostlyPublic(numbers.deepProgram(6))
		}
		if check(p) {
			tried++
			if !impl.ReleaseFree(p) {
				released++
			}
		}
	}
	if tried < 1500 || released < 100 {
		t.Errorf("only %d codes, of which %d have releases, were tried", tried, released)
	}
}

// verifyCode has a path, a loop, each kind of leak that it does not make, and something that is not reached.
const verifyCode = "get 0 1; const 9 2; zero 1 6; load 2 1 1; store 1 1 0; loop 9 3; release 2; put 0 2; jump 10; put 0 0; select 3 0 1 2; put 1 3; halt"

func TestVerifierKeepsArguments(t *testing.T) {
	for _, list := range []string{verifyCode, everyOperation, "halt", "get 0 1; put 0 0; halt", "zero 0 2; get 0 1; jump 0"} {
		c := spareCode(codeIn(t, "LH/LH", list))
		keptCode := clonedCode(c)
		taint := taintOf(plainTaint(c))
		for at := range taint {
			size := len(taint[at])
			taint[at] = append(slices.Clip(taint[at]), true, false)[:size]
		}
		taint = append(slices.Clip(taint), []bool{true})[:len(taint)]
		keptTaint := taintText(taint)
		impl.CheckCode(c)
		impl.InferTaint(c)
		impl.CheckTaint(c, taint)
		impl.FormatTaint(taint)
		impl.CodeReleases(c)
		if !reflect.DeepEqual(c, keptCode) || !isSpareCodeKept(c) {
			t.Errorf("a function changed its argument %s to %q, or what is beyond it", list, plainCodeText(c))
		}
		if taintText(taint) != keptTaint || !slices.Equal(taint[:len(taint)+1][len(taint)], []bool{true}) {
			t.Errorf("a function changed its argument %s to %s, or what is beyond it", keptTaint, taintText(taint))
		}
		for _, row := range taint {
			if !slices.Equal(row[len(row):len(row)+2], []bool{true, false}) {
				t.Error("a function changed what is beyond a row")
			}
		}
	}
}

// flagsUsed reports whether no element of a taint map, or beyond its rows, is in used, and puts all of them there.
func flagsUsed(used map[*bool]bool, taint [][]bool) bool {
	alone := true
	for _, row := range taint {
		row = row[:cap(row)]
		for i := range row {
			alone = alone && !used[&row[i]]
			used[&row[i]] = true
		}
	}
	return alone
}

func TestMapsShareNoMemory(t *testing.T) {
	text := "\n" + publicRow + "\n" + publicRow + "\n\nHHHHHHHHHHHHHH\nHLHLHLHLHLHLHL\n"
	calls := map[string]func() ([][]bool, bool){"ParseTaint": func() ([][]bool, bool) { return impl.ParseTaint(text) }}
	for _, list := range []string{verifyCode, "halt", "jump 1; fence; halt", "halt; halt; halt"} {
		c := codeIn(t, "LH/LH", list)
		calls["InferTaint of "+list] = func() ([][]bool, bool) { return impl.InferTaint(c) }
	}
	for what, call := range calls {
		first, ok := call()
		second, okSecond := call()
		used := map[*bool]bool{}
		if !ok || !okSecond || !flagsUsed(used, first) || !flagsUsed(used, second) {
			t.Errorf("a result of %s shares memory with another result or with itself", what)
		}
		want := taintText(second)
		for _, row := range first {
			row = row[:cap(row)]
			for i := range row {
				row[i] = !row[i]
			}
		}
		checkAlone(t, what, func() [][]bool { taint, _ := call(); return taint }, taintText, []bool{true})
		if third, _ := call(); taintText(second) != want || taintText(third) != want {
			t.Errorf("a result of %s shares memory, or %s keeps state", what, what)
		}
	}
}

func TestVerifierWithOneSlice(t *testing.T) {
	labels := []int{0, 1, 2, 3}
	c := impl.Code{Vars: labels, Arrays: labels[:2], List: codeIn(t, "LHUX/LH", verifyCode).List}
	taint, ok := impl.InferTaint(c)
	if !ok || taintText(taint) != ".; 0; 0; 0 2; 0 2; 0 2; 0 2; 0; 0; -; 0; 0 3; 0 3" || !impl.CheckTaint(c, taint) || numbersText(labels) != "0 1 2 3" {
		t.Errorf("InferTaint = %s, %v, and the labels are %v", taintText(taint), ok, labels)
	}
}

func TestVerifierAtTheSameTime(t *testing.T) {
	c, leaky := codeIn(t, "LH/LH", verifyCode), relay(400)
	taint, _ := impl.InferTaint(c)
	want := taintText(taint)
	var group sync.WaitGroup
	for range 8 {
		group.Go(func() {
			for range 100 {
				got, ok := impl.InferTaint(c)
				back, parsed := impl.ParseTaint(impl.FormatTaint(taint))
				result, at := impl.CheckCode(leaky)
				if !ok || !parsed || taintText(got) != want || taintText(back) != want || !impl.CheckTaint(c, taint) || result != impl.FlowAssign || at != 0 || !impl.CodeReleases(c) {
					t.Errorf("InferTaint = %s, %v and CheckCode = %d, %d", taintText(got), ok, result, at)
				}
			}
		})
	}
	group.Wait()
}

func TestBranchesThatLeadEverywhere(t *testing.T) {
	// Rows change many times here if the instructions wait in a bad order.
	list := make([]impl.Instr, 400)
	for at := range list {
		list[at] = instr(impl.OpZero, 0, (at*at+7*at+1)%400)
		if at%29 == 0 {
			list[at] = instr(impl.OpGet, 1+at/29%13, 1)
		}
	}
	list[399] = instr(impl.OpJump, 0)
	c := codeOf("LH/", list...)
	for range 200 {
		if result, at := impl.CheckCode(c); result != impl.FlowFine || at != -1 {
			t.Fatalf("CheckCode = %d, %d", result, at)
		}
	}
	checkVerified(t, c)
	if result, at := impl.CheckCode(impl.Code{Vars: []int{math.MaxInt}, List: list}); result != impl.FlowInvalid || at != -1 {
		t.Errorf("CheckCode = %d, %d", result, at)
	}
}
