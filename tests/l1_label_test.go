package tests

import (
	"math"
	"slices"
	"strings"
	"testing"

	"loop.example/constanttime/impl"
)

// labelRow states a label as the document's table does, so that the tests do not depend on how labels are numbered in bits.
type labelRow struct {
	letter  byte
	secret  bool
	trusted bool
}

var labelTable = []labelRow{
	{'L', false, true},
	{'H', true, true},
	{'U', false, false},
	{'X', true, false},
}

// labelNumber returns the label that has these two properties.
func labelNumber(t *testing.T, secret bool, trusted bool) int {
	t.Helper()
	for l, row := range labelTable {
		if row.secret == secret && row.trusted == trusted {
			return l
		}
	}
	t.Fatalf("no label has secret %v and trusted %v", secret, trusted)
	return -1
}

// notLabels has numbers whose low bits look like each of the labels.
var notLabels = []int{-1, -2, -3, -4, -5, 4, 5, 6, 7, 8, 255, 256, 257, 1 << 32, 1<<32 + 1, math.MaxInt, math.MaxInt - 1, math.MinInt, math.MinInt + 1}

func isLabel(l int) bool { return 0 <= l && l < len(labelTable) }

// allNumbers returns the labels and the numbers of notLabels.
func allNumbers() []int { return append([]int{0, 1, 2, 3}, notLabels...) }

// labelLists returns all lists of labels with at most size elements.
func labelLists(size int) [][]int {
	lists := [][]int{{}}
	for first := 0; size > 0; size-- {
		last := len(lists)
		for _, list := range lists[first:last] {
			for l := range labelTable {
				lists = append(lists, append(slices.Clone(list), l))
			}
		}
		first = last
	}
	return lists
}

func TestMaxLabel(t *testing.T) {
	if impl.MaxLabel != 3 {
		t.Errorf("MaxLabel = %d, want 3", impl.MaxLabel)
	}
}

func TestLabelProperties(t *testing.T) {
	for l, row := range labelTable {
		if !impl.LabelValid(l) {
			t.Errorf("LabelValid(%d) = false", l)
		}
		if got := impl.LabelSecret(l); got != row.secret {
			t.Errorf("LabelSecret(%d) = %v", l, got)
		}
		if got := impl.LabelTrusted(l); got != row.trusted {
			t.Errorf("LabelTrusted(%d) = %v", l, got)
		}
	}
	for _, l := range notLabels {
		if impl.LabelValid(l) || impl.LabelSecret(l) || impl.LabelTrusted(l) {
			t.Errorf("%d is taken for a label: valid %v, secret %v, trusted %v", l, impl.LabelValid(l), impl.LabelSecret(l), impl.LabelTrusted(l))
		}
	}
}

func TestJoinAndMeetOfLabels(t *testing.T) {
	for a, x := range labelTable {
		for b, y := range labelTable {
			join := labelNumber(t, x.secret || y.secret, x.trusted && y.trusted)
			if got := impl.JoinLabels(a, b); got != join {
				t.Errorf("JoinLabels(%d, %d) = %d, want %d", a, b, got, join)
			}
			meet := labelNumber(t, x.secret && y.secret, x.trusted || y.trusted)
			if got := impl.MeetLabels(a, b); got != meet {
				t.Errorf("MeetLabels(%d, %d) = %d, want %d", a, b, got, meet)
			}
		}
	}
	if got := impl.FormatLabels([]int{impl.JoinLabels(1, 2)}); got != "X" {
		t.Errorf("the join of H and U is %q, want X", got)
	}
}

func TestFlowOfLabels(t *testing.T) {
	// Each text has the letters of the labels to which a label may flow.
	for a, to := range []string{"LHUX", "HX", "UX", "X"} {
		for b, row := range labelTable {
			want := strings.IndexByte(to, row.letter) >= 0
			if got := impl.LabelFlows(a, b); got != want {
				t.Errorf("LabelFlows(%d, %d) = %v", a, b, got)
			}
		}
	}
}

func TestInvalidLabelInEachArgument(t *testing.T) {
	for _, a := range allNumbers() {
		for _, b := range allNumbers() {
			if isLabel(a) && isLabel(b) {
				continue
			}
			if got := impl.JoinLabels(a, b); got != impl.MaxLabel {
				t.Errorf("JoinLabels(%d, %d) = %d, want %d", a, b, got, impl.MaxLabel)
			}
			if got := impl.MeetLabels(a, b); got != 0 {
				t.Errorf("MeetLabels(%d, %d) = %d, want 0", a, b, got)
			}
			if impl.LabelFlows(a, b) {
				t.Errorf("LabelFlows(%d, %d) = true", a, b)
			}
		}
	}
}

func TestLabelsAreALattice(t *testing.T) {
	join, meet := impl.JoinLabels, impl.MeetLabels
	for a := range labelTable {
		if join(a, a) != a || meet(a, a) != a {
			t.Errorf("join or meet of %d with itself is not %d", a, a)
		}
		if join(0, a) != a || meet(0, a) != 0 || join(3, a) != 3 || meet(3, a) != a {
			t.Errorf("0 and 3 are not the bounds of %d", a)
		}
		for b := range labelTable {
			if join(a, b) != join(b, a) || meet(a, b) != meet(b, a) {
				t.Errorf("join or meet of %d and %d depends on their order", a, b)
			}
			if join(a, meet(a, b)) != a || meet(a, join(a, b)) != a {
				t.Errorf("%d and %d do not absorb", a, b)
			}
			for c := range labelTable {
				if join(a, join(b, c)) != join(join(a, b), c) || meet(a, meet(b, c)) != meet(meet(a, b), c) {
					t.Errorf("join or meet of %d, %d and %d depends on their grouping", a, b, c)
				}
			}
		}
	}
}

func TestFlowIsTheOrderOfTheLattice(t *testing.T) {
	flows := impl.LabelFlows
	for a := range labelTable {
		if !flows(a, a) || !flows(0, a) || !flows(a, 3) {
			t.Errorf("%d does not flow to itself or is not between 0 and 3", a)
		}
		for b := range labelTable {
			if flows(a, b) != (impl.JoinLabels(a, b) == b) || flows(a, b) != (impl.MeetLabels(a, b) == a) {
				t.Errorf("LabelFlows(%d, %d) = %v is not the order of join and meet", a, b, flows(a, b))
			}
			if a != b && flows(a, b) && flows(b, a) {
				t.Errorf("%d and %d flow to each other", a, b)
			}
			for c := range labelTable {
				checkBounds(t, a, b, c)
			}
		}
	}
}

// checkBounds checks that the flow from a by b to c is transitive, and that join and meet of a and b are the bounds nearest to them.
func checkBounds(t *testing.T, a int, b int, c int) {
	t.Helper()
	flows := impl.LabelFlows
	if flows(a, b) && flows(b, c) && !flows(a, c) {
		t.Errorf("the flow from %d by %d to %d is not transitive", a, b, c)
	}
	if flows(impl.JoinLabels(a, b), c) != (flows(a, c) && flows(b, c)) {
		t.Errorf("the join of %d and %d is not their least upper bound, compared with %d", a, b, c)
	}
	if flows(c, impl.MeetLabels(a, b)) != (flows(c, a) && flows(c, b)) {
		t.Errorf("the meet of %d and %d is not their greatest lower bound, compared with %d", a, b, c)
	}
}

func TestFormatAndParseLabels(t *testing.T) {
	for _, list := range labelLists(5) {
		var want strings.Builder
		for _, l := range list {
			want.WriteByte(labelTable[l].letter)
		}
		text := impl.FormatLabels(list)
		if text != want.String() {
			t.Errorf("FormatLabels(%v) = %q, want %q", list, text, want.String())
		}
		back, ok := impl.ParseLabels(want.String())
		if !ok || !slices.Equal(back, list) {
			t.Errorf("ParseLabels(%q) = %v, %v, want %v", want.String(), back, ok, list)
		}
	}
}

func TestEmptyLabelList(t *testing.T) {
	if got := impl.FormatLabels(nil); got != "" {
		t.Errorf("FormatLabels(nil) = %q", got)
	}
	if got := impl.FormatLabels([]int{}); got != "" {
		t.Errorf("FormatLabels of an empty list = %q", got)
	}
	if list, ok := impl.ParseLabels(""); !ok || len(list) != 0 {
		t.Errorf("ParseLabels of the empty text = %v, %v", list, ok)
	}
}

func TestLongLabelList(t *testing.T) {
	text := strings.Repeat("LHUX", 5000)
	list, ok := impl.ParseLabels(text)
	if !ok || len(list) != len(text) || impl.FormatLabels(list) != text {
		t.Errorf("a text of %d letters is not read back: %d labels, %v", len(text), len(list), ok)
	}
	if list, ok := impl.ParseLabels(text + "l"); ok || len(list) != 0 {
		t.Errorf("a wrong byte after %d letters: %d labels, %v", len(text), len(list), ok)
	}
}

func TestFormatLabelsWithWrongElement(t *testing.T) {
	for _, wrong := range notLabels {
		for _, list := range [][]int{{wrong}, {wrong, 0, 1}, {2, wrong, 3}, {0, 1, wrong}, {wrong, wrong}} {
			if got := impl.FormatLabels(list); got != "" {
				t.Errorf("FormatLabels(%v) = %q", list, got)
			}
		}
	}
}

// checkNoLabels checks that ParseLabels does not accept text.
func checkNoLabels(t *testing.T, text string) {
	t.Helper()
	if list, ok := impl.ParseLabels(text); ok || len(list) != 0 {
		t.Errorf("ParseLabels(%q) = %v, %v", text, list, ok)
	}
}

func TestParseLabelsWithWrongByte(t *testing.T) {
	for c := range 256 {
		if strings.IndexByte("LHUX", byte(c)) >= 0 {
			continue
		}
		wrong := string([]byte{byte(c)})
		for _, text := range []string{wrong, wrong + "LH", "L" + wrong + "H", "UX" + wrong} {
			checkNoLabels(t, text)
		}
	}
}

func TestParseLabelsWithWrongLetter(t *testing.T) {
	// U+0148, U+014C, U+0155 and U+0158 end in the byte of a letter; U+FF28 is a wide H, U+0425 looks like X.
	for _, wrong := range []string{"\u0148", "\u014c", "\u0155", "\u0158", "\uff28", "\u0425", "\u00e9", "\xff", "\x00", " ", "\n", "lhux", "0123"} {
		for _, text := range []string{wrong, wrong + "X", "X" + wrong, "H" + wrong + "U"} {
			checkNoLabels(t, text)
		}
	}
}

func TestLabelResultsShareNoMemory(t *testing.T) {
	first, _ := impl.ParseLabels("LHUXL")
	second, _ := impl.ParseLabels("LHUXL")
	spare := first[:cap(first)]
	for i := range spare {
		spare[i] = 9
	}
	third, _ := impl.ParseLabels("LHUXL")
	for _, list := range [][]int{second, third} {
		if !slices.Equal(list, []int{0, 1, 2, 3, 0}) {
			t.Errorf("a result is %v after another one was overwritten", list)
		}
	}
	if got := impl.FormatLabels([]int{0, 1, 2, 3}); got != "LHUX" {
		t.Errorf("the letters are %q after a result was overwritten", got)
	}
}

func TestLabelArgumentsAreKept(t *testing.T) {
	memory := []int{3, 2, 1, 0, 7, -1}
	list := memory[1:3]
	text := impl.FormatLabels(list)
	if !slices.Equal(memory, []int{3, 2, 1, 0, 7, -1}) {
		t.Errorf("FormatLabels changed its argument or what is beside it: %v", memory)
	}
	list[0], list[1] = 0, 0
	if text != "UH" {
		t.Errorf("the text is %q after its list was changed", text)
	}
	letters := []byte("HX")
	parsed, _ := impl.ParseLabels(string(letters))
	parsed[0] = 2
	if got := impl.FormatLabels(parsed); got != "UX" || string(letters) != "HX" {
		t.Errorf("the list reads %q and its text %q after the list was changed", got, letters)
	}
}
