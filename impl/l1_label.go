package impl

import (
	"iter"
	"strings"
)

// MaxLabel is the greatest label.
const MaxLabel = 3

// label is a number that is known to be a label.
// Its two marks are independent bits, so that join and meet are the bitwise operations.
type label int

const (
	secretMark    label = 1
	untrustedMark label = 2
)

// labelLetters has the letter of each label.
var labelLetters = [MaxLabel + 1]byte{'L', 'H', 'U', 'X'}

func (l label) secret() bool { return l&secretMark != 0 }

func (l label) trusted() bool { return l&untrustedMark == 0 }

func (l label) join(m label) label { return l | m }

func (l label) meet(m label) label { return l & m }

// flowsTo follows the definition of the flow relation rather than that of the join,
// so that their agreement is a fact that tests can check.
func (l label) flowsTo(m label) bool {
	return (m.secret() || !l.secret()) && (!m.trusted() || l.trusted())
}

func (l label) letter() byte { return labelLetters[l] }

// labelOf returns the label with the number n, and whether there is one.
func labelOf(n int) (label, bool) {
	if n < 0 || n > MaxLabel {
		return 0, false
	}
	return label(n), true
}

// receives reports whether data with the label n may flow to l.
func (l label) receives(n int) bool {
	from, ok := labelOf(n)
	return ok && from.flowsTo(l)
}

// labelOfLetter returns the label with the letter c, and whether there is one.
func labelOfLetter(c byte) (label, bool) {
	for n, letter := range labelLetters {
		if letter == c {
			return label(n), true
		}
	}
	return 0, false
}

// numberedLabels yields the labels of the numbers of list, each with whether it is one.
func numberedLabels(list []int) iter.Seq2[label, bool] {
	return func(yield func(label, bool) bool) {
		for _, n := range list {
			if !yield(labelOf(n)) {
				return
			}
		}
	}
}

// letteredLabels yields the labels of the letters of text, each with whether it is one.
// It goes by bytes: as runes, letters beyond ASCII could be cut down to one of the four.
func letteredLabels(text string) iter.Seq2[label, bool] {
	return func(yield func(label, bool) bool) {
		for i := range len(text) {
			if !yield(labelOfLetter(text[i])) {
				return
			}
		}
	}
}

// LabelValid reports whether l is a label.
func LabelValid(l int) bool {
	_, ok := labelOf(l)
	return ok
}

// JoinLabels returns the least label to which both labels may flow.
func JoinLabels(a int, b int) int {
	first, okFirst := labelOf(a)
	second, okSecond := labelOf(b)
	if !okFirst || !okSecond {
		return MaxLabel
	}
	return int(first.join(second))
}

// MeetLabels returns the greatest label that may flow to both labels.
func MeetLabels(a int, b int) int {
	first, okFirst := labelOf(a)
	second, okSecond := labelOf(b)
	if !okFirst || !okSecond {
		return 0
	}
	return int(first.meet(second))
}

// LabelFlows reports whether data with label a may flow to a place with label b.
func LabelFlows(a int, b int) bool {
	from, okFrom := labelOf(a)
	to, okTo := labelOf(b)
	return okFrom && okTo && from.flowsTo(to)
}

// LabelSecret reports whether l is secret.
func LabelSecret(l int) bool {
	known, ok := labelOf(l)
	return ok && known.secret()
}

// LabelTrusted reports whether l is trusted.
func LabelTrusted(l int) bool {
	known, ok := labelOf(l)
	return ok && known.trusted()
}

// FormatLabels returns the text of a list of labels.
func FormatLabels(list []int) string {
	var text strings.Builder
	for known, ok := range numberedLabels(list) {
		if !ok {
			return ""
		}
		text.WriteByte(known.letter())
	}
	return text.String()
}

// ParseLabels parses the text of a list of labels.
func ParseLabels(text string) ([]int, bool) {
	var list []int
	for known, ok := range letteredLabels(text) {
		if !ok {
			return nil, false
		}
		list = append(list, int(known))
	}
	return list, true
}
