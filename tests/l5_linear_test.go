package tests

import (
	"reflect"
	"regexp"
	"slices"
	"strconv"
	"strings"
	"sync"
	"testing"

	"loop.example/constanttime/impl"
)

// readShort is a short form of the statements that rule 1 inserts: <c=P[b]>.
var readShort = regexp.MustCompile(`<(\w)=(\w)\[(\w)\]>`)

// storeShort is a short form of the stores of rule 4: <P[b]=c>, or <P[b]=c|d> under the mask d.
var storeShort = regexp.MustCompile(`<(\w)\[(\w)\]=(\w)(\|\w)?>`)

// readText writes the statements that rule 1 inserts.
func readText(v string, array string, index string) string {
	text := v + ":=" + array + "[0];"
	for _, k := range []string{"1", "2", "3"} {
		text += v + ":=(((" + index + "&3)=" + k + ")?" + array + "[" + k + "]:" + v + ");"
	}
	return text
}

// storeText writes the stores of rule 4.
func storeText(array string, index string, v string, mask string) string {
	text := ""
	for _, k := range []string{"0", "1", "2", "3"} {
		element := array + "[" + k + "]"
		text += element + ":=(" + maskedText(mask, "(("+index+"&3)="+k+")", "0") + "?" + v + ":" + element + ");"
	}
	return text
}

// maskedText masks a text with another one. The empty mask is none.
func maskedText(mask string, text string, other string) string {
	if mask == "" {
		return text
	}
	return "(" + mask + "?" + text + ":" + other + ")"
}

// full writes the short forms in a text in full.
func full(text string) string {
	text = readShort.ReplaceAllStringFunc(text, func(short string) string {
		part := readShort.FindStringSubmatch(short)
		return readText(part[1], part[2], part[3])
	})
	return storeShort.ReplaceAllStringFunc(text, func(short string) string {
		part := storeShort.FindStringSubmatch(short)
		return storeText(part[1], part[2], part[3], strings.TrimPrefix(part[4], "|"))
	})
}

// checkLinear checks what Linearize makes of a program, where want may have short forms, and that it keeps promise 5.
func checkLinear(t *testing.T, text string, want string) {
	t.Helper()
	p := parsed(t, text)
	q, ok := impl.Linearize(p)
	if got := impl.FormatProgram(q); !ok || got != full(want) || !equalPrograms(q, parsed(t, full(want))) {
		t.Errorf("Linearize of %q = %q, %v, want %q", text, got, ok, full(want))
		return
	}
	if impl.FormatProgram(p) != text {
		t.Errorf("Linearize changed %q to %q", text, impl.FormatProgram(p))
	}
	numbers := source(len(text))
	for range 40 {
		checkPromise(t, p, q, &numbers)
	}
}

// checkNotLinear checks that Linearize does not accept a program.
func checkNotLinear(t *testing.T, what string, p impl.Program) {
	t.Helper()
	if q, ok := impl.Linearize(p); ok || !isZeroProgram(q) {
		t.Errorf("%s: Linearize of %q = %v, %v", what, impl.FormatProgram(p), q, ok)
	}
}

// releasesIn writes the values that a trace releases.
func releasesIn(trace []impl.Event) string {
	var list []int
	for _, event := range trace {
		if event.Kind == impl.EventRelease {
			list = append(list, event.Value)
		}
	}
	return numbersText(list)
}

// checkPromise checks promise 5 for a program, its linearized program, and some memory.
func checkPromise(t *testing.T, p impl.Program, q impl.Program, numbers *source) {
	t.Helper()
	if got := resultText(impl.CheckConstantTime(q)); got != "fine" || !impl.ExtendsProgram(p, q) {
		t.Fatalf("%q has the result %s and extends %q: %v", impl.FormatProgram(q), got, impl.FormatProgram(p), impl.ExtendsProgram(p, q))
	}
	m := numbers.someMemory(p)
	extended, ok := impl.ExtendMemory(p, q, m)
	if !ok || memoryText(extended) != numbersText(append(slices.Clone(m.Vals), make([]int, len(q.Vars)-len(p.Vars))...))+strings.TrimPrefix(memoryText(m), numbersText(m.Vals)) {
		t.Fatalf("ExtendMemory of %s from %q to %q = %s, %v", memoryText(m), impl.FormatProgram(p), impl.FormatProgram(q), memoryText(extended), ok)
	}
	want, wantTrace, _ := impl.RunProgram(p, m)
	// Fresh variables are written before they are read, so it does not matter what is in them.
	other := numbers.someMemory(q)
	copy(other.Vals, m.Vals)
	other.Arrays = clonedMemory(m).Arrays
	for _, start := range []impl.Memory{extended, other} {
		out, trace, ran := impl.RunProgram(q, start)
		got, restricted := impl.RestrictMemory(p, q, out)
		if !ran || !restricted || memoryText(got) != memoryText(want) || releasesIn(trace) != releasesIn(wantTrace) {
			t.Errorf("%q makes %s of %s and releases %q, but %q makes %s and releases %q", impl.FormatProgram(p), memoryText(want), memoryText(m), releasesIn(wantTrace), impl.FormatProgram(q), memoryText(got), releasesIn(trace))
		}
	}
	if impl.ReleaseFree(p) {
		checkSecretTrace(t, q, extended, numbers.changedAt(q, extended, isSecret))
	}
}

func TestLinearizedPrograms(t *testing.T) {
	checkLinear(t, "HH//ifb{a:=1;}{}", "HHHH//c:=b;d:=(c=0);a:=(c?1:a);")
	checkLinear(t, "LH/L/b:=P[b];", "LHH/L/c:=P[0];c:=(((b&3)=1)?P[1]:c);c:=(((b&3)=2)?P[2]:c);c:=(((b&3)=3)?P[3]:c);b:=c;")
	checkLinear(t, "LH/H/P[b]:=a;", "LHL/H/c:=a;P[0]:=(((b&3)=0)?c:P[0]);P[1]:=(((b&3)=1)?c:P[1]);P[2]:=(((b&3)=2)?c:P[2]);P[3]:=(((b&3)=3)?c:P[3]);")
	checkLinear(t, "HH/H/ifa{P[b]:=a;}{}", "HHHHH/H/c:=a;d:=(c=0);e:=a;P[0]:=((c?((b&3)=0):0)?e:P[0]);P[1]:=((c?((b&3)=1):0)?e:P[1]);P[2]:=((c?((b&3)=2):0)?e:P[2]);P[3]:=((c?((b&3)=3):0)?e:P[3]);")
}

func TestProgramsWithoutSecretsStay(t *testing.T) {
	for _, text := range []string{
		"L//", "X//", "LHUX/HU/", "LHUXLHUXLHUX/HU/", "LH//a:=1;ifa{b:=(a+b);}{}", "L//ifa{}{}", "L//if1{if2{if3{if4{a:=1;}{}}{}}{}}{}",
		"U/U/ifP[a]{repeat2{P[a]:=(P[a]+1);}a:=2;}{a:=P[3];}", "LL/LL/a!=P[b];P[a]:=(Q[b]<3);repeat3{ifa{b!=1;}{b:=2;}}",
		"LH/H/P[a]:=b;b:=P[a];P[7]:=P[255];a!=(b?P[a]:1);", "UX/X/ifa{b:=(b?1:P[a]);}{P[a]:=b;}", "L//repeat1{}repeat2{repeat3{}}",
	} {
		checkLinear(t, text, text)
	}
	sixty := smallest(slices.Repeat([]impl.Stmt{assign(0, bushOf(15)), repeat(3, assign(0, chainOf(5)))}, 20)...)
	if got, ok := impl.Linearize(sixty); !ok || !equalPrograms(got, sixty) {
		t.Errorf("Linearize of 60 statements = %s, %v", impl.FormatProgram(got), ok)
	}
}

// Rule 1.

func TestReadsInEveryKindOfStatement(t *testing.T) {
	checkLinear(t, "LH/L/b:=(P[b]+1);", "LHH/L/<c=P[b]>b:=(c+1);")
	checkLinear(t, "LH/LH/Q[a]:=P[b];", "LHH/LH/<c=P[b]>Q[a]:=c;")
	checkLinear(t, "LH/LH/Q[6]:=(1-P[b]);", "LHH/LH/<c=P[b]>Q[6]:=(1-c);")
	checkLinear(t, "LH/LH/Q[b]:=P[b];", "LHHH/LH/<c=P[b]>d:=c;<Q[b]=d>")
	checkLinear(t, "LH/L/a!=P[b];", "LHH/L/<c=P[b]>a!=c;")
	checkLinear(t, "LH/L/if(P[b]=7){b:=1;}{b:=2;}", "LHHHH/L/<c=P[b]>d:=(c=7);e:=(d=0);b:=(d?1:b);b:=(e?2:b);")
	// Reads at other indices stay. In a condition that is not secret there are no others, since an index counts for the label.
	checkLinear(t, "LHU/HU/b:=(P[a]+P[3]);P[a]:=P[a];if(Q[c]+Q[a]){c:=Q[c];}{}b!=P[a];", "LHU/HU/b:=(P[a]+P[3]);P[a]:=P[a];if(Q[c]+Q[a]){c:=Q[c];}{}b!=P[a];")
	checkLinear(t, "LH/H/ifP[a]{b:=1;}{}", "LHHH/H/c:=P[a];d:=(c=0);b:=(c?1:b);")
}

func TestReadsTwiceInAnExpression(t *testing.T) {
	checkLinear(t, "LH/LL/b:=(P[b]-Q[b]);", "LHHH/LL/<c=P[b]><d=Q[b]>b:=(c-d);")
	checkLinear(t, "LH/LL/b:=(P[b]-P[b]);", "LHHH/LL/<c=P[b]><d=P[b]>b:=(c-d);")
	checkLinear(t, "LHH/LL/b:=(Q[c]-Q[b]);", "LHHHH/LL/<d=Q[c]><e=Q[b]>b:=(d-e);")
	checkLinear(t, "LH/LL/b:=((P[a]+Q[b])*(P[b]&Q[a]));", "LHHH/LL/<c=Q[b]><d=P[b]>b:=((P[a]+c)*(d&Q[a]));")
	checkLinear(t, "LH/LL/b:=(P[b]?Q[b]:P[b]);", "LHHHH/LL/<c=P[b]><d=Q[b]><e=P[b]>b:=(c?d:e);")
	checkLinear(t, "LH/LL/b:=(((P[b]^1)?2:Q[a])=(3<(4-Q[b])));", "LHHH/LL/<c=P[b]><d=Q[b]>b:=(((c^1)?2:Q[a])=(3<(4-d)));")
	checkLinear(t, "LH/L/ifP[b]{b:=P[b];}{}b:=P[b];", "LHHHHHH/L/<c=P[b]>d:=c;e:=(d=0);<f=P[b]>b:=(d?f:b);<g=P[b]>b:=g;")
	checkLinear(t, "LH/HH/if(P[b]<Q[b]){Q[b]:=P[b];}{}", "LHHHHHHH/HH/<c=P[b]><d=Q[b]>e:=(c<d);f:=(e=0);<g=P[b]>h:=g;<Q[b]=h|e>")
}

func TestReadsInParts(t *testing.T) {
	checkLinear(t, "LH/L/ifa{b:=P[b];}{}", "LHH/L/ifa{<c=P[b]>b:=c;}{}")
	checkLinear(t, "LH/L/ifa{}{b:=P[b];a:=1;}", "LHH/L/ifa{}{<c=P[b]>b:=c;a:=1;}")
	checkLinear(t, "LH/L/ifa{b:=P[b];}{b:=(P[b]+1);}", "LHHH/L/ifa{<c=P[b]>b:=c;}{<d=P[b]>b:=(d+1);}")
	checkLinear(t, "LH/L/a:=0;repeat3{a:=1;b:=P[b];}", "LHH/L/a:=0;repeat3{a:=1;<c=P[b]>b:=c;}")
	checkLinear(t, "LH/L/repeat2{ifa{a!=P[b];}{repeat1{b:=P[b];}}a:=3;}", "LHHH/L/repeat2{ifa{<c=P[b]>a!=c;}{repeat1{<d=P[b]>b:=d;}}a:=3;}")
	// Under a mask the assignments are not masked, and those of a block stay in it.
	checkLinear(t, "HH/L/ifa{b:=P[b];}{}", "HHHHH/L/c:=a;d:=(c=0);<e=P[b]>b:=(c?e:b);")
	checkLinear(t, "HH/L/ifa{}{b:=P[b];}", "HHHHH/L/c:=a;d:=(c=0);<e=P[b]>b:=(d?e:b);")
	checkLinear(t, "HH/L/ifa{repeat2{b:=P[b];}}{}", "HHHHH/L/c:=a;d:=(c=0);repeat2{<e=P[b]>b:=(c?e:b);}")
	checkLinear(t, "HHL/L/ifa{ifc{b:=P[b];}{}}{}", "HHLHHH/L/d:=a;e:=(d=0);ifc{<f=P[b]>b:=(d?f:b);}{}")
	checkLinear(t, "HHL/L/ifa{}{ifc{}{b:=P[b];}}", "HHLHHH/L/d:=a;e:=(d=0);ifc{}{<f=P[b]>b:=(e?f:b);}")
	checkLinear(t, "HH/L/ifa{ifP[b]{b:=1;}{}}{}", "HHHHHHH/L/c:=a;d:=(c=0);<e=P[b]>f:=(c?e:0);g:=(c?(f=0):0);b:=(f?1:b);")
}

// Rules 2, 3 and 4.

func TestAssignmentsAndReleases(t *testing.T) {
	checkLinear(t, "LH//b:=(a-b);a!=b;", "LH//b:=(a-b);a!=b;")
	checkLinear(t, "HHH//ifa{b:=(c-1);c:=c;}{b:=c;}", "HHHHH//d:=a;e:=(d=0);b:=(d?(c-1):b);c:=(d?c:c);b:=(e?c:b);")
	checkLinear(t, "LH//ifb{}{}a!=b;b:=a;", "LHHH//c:=b;d:=(c=0);a!=b;b:=a;")
	checkLinear(t, "LH/L/ifa{repeat2{b!=(P[b]+b);}}{a!=1;}", "LHH/L/ifa{repeat2{<c=P[b]>b!=(c+b);}}{a!=1;}")
}

func TestStoresAtPublicIndices(t *testing.T) {
	checkLinear(t, "HL/H/P[b]:=a;", "HL/H/P[b]:=a;")
	checkLinear(t, "HL/H/ifa{P[b]:=1;}{}", "HLHH/H/c:=a;d:=(c=0);P[b]:=(c?1:P[b]);")
	checkLinear(t, "HL/H/ifa{}{P[5]:=(a+b);}", "HLHH/H/c:=a;d:=(c=0);P[5]:=(d?(a+b):P[5]);")
	checkLinear(t, "HL/HH/ifa{P[2]:=Q[b];}{Q[b]:=P[b];}", "HLHH/HH/c:=a;d:=(c=0);P[2]:=(c?Q[b]:P[2]);Q[b]:=(d?P[b]:Q[b]);")
	checkLinear(t, "UX/X/ifa{P[a]:=b;}{}", "UX/X/ifa{P[a]:=b;}{}")
	checkLinear(t, "UH/X/ifa{ifb{P[a]:=b;}{}}{}", "UHXX/X/ifa{c:=b;d:=(c=0);P[a]:=(c?b:P[a]);}{}")
	checkLinear(t, "HU/X/ifa{repeat2{P[b]:=P[a];}}{}", "HUHHX/X/c:=a;d:=(c=0);repeat2{<e=P[a]>P[b]:=(c?e:P[b]);}")
}

func TestStoresAtSecretIndices(t *testing.T) {
	checkLinear(t, "LH/HH/Q[b]:=(a+1);", "LHL/HH/c:=(a+1);<Q[b]=c>")
	checkLinear(t, "LH/H/P[b]:=b;", "LHH/H/c:=b;<P[b]=c>")
	checkLinear(t, "LH/H/repeat2{P[b]:=P[a];}", "LHH/H/repeat2{c:=P[a];<P[b]=c>}")
	checkLinear(t, "HHL/H/ifa{P[b]:=c;}{P[b]:=(c+1);}", "HHLHHHH/H/d:=a;e:=(d=0);f:=c;<P[b]=f|d>g:=(c+1);<P[b]=g|e>")
	checkLinear(t, "ULH/X/ifa{P[c]:=b;}{}", "ULHU/X/ifa{d:=b;<P[c]=d>}{}")
	checkLinear(t, "ULH/X/ifa{}{P[c]:=(c+b);}", "ULHX/X/ifa{}{d:=(c+b);<P[c]=d>}")
	checkLinear(t, "UHH/X/ifa{ifb{P[c]:=1;}{}}{}", "UHHXXX/X/ifa{d:=b;e:=(d=0);f:=1;<P[c]=f|d>}{}")
	checkLinear(t, "HLH/H/ifa{ifb{P[c]:=1;}{}}{}", "HLHHHH/H/d:=a;e:=(d=0);ifb{f:=1;<P[c]=f|d>}{}")
	// The value is read before anything is written.
	checkLinear(t, "LH/H/P[b]:=P[b];b:=P[2];", "LHHH/H/<c=P[b]>d:=c;<P[b]=d>b:=P[2];")
}

// Rules 5, 6 and 7.

func TestBranchesThatAreNotSecret(t *testing.T) {
	checkLinear(t, "LH//ifa{b:=1;}{b:=2;}", "LH//ifa{b:=1;}{b:=2;}")
	checkLinear(t, "LH//if(a=1){ifb{b:=1;}{b:=2;}}{ifb{b:=3;}{}}", "LHHHHH//if(a=1){c:=b;d:=(c=0);b:=(c?1:b);b:=(d?2:b);}{e:=b;f:=(e=0);b:=(e?3:b);}")
	checkLinear(t, "HLH//ifa{ifb{c:=1;}{c:=2;}}{}", "HLHHH//d:=a;e:=(d=0);ifb{c:=(d?1:c);}{c:=(d?2:c);}")
	checkLinear(t, "HLH//ifa{}{ifb{c:=1;}{c:=2;}}", "HLHHH//d:=a;e:=(d=0);ifb{c:=(e?1:c);}{c:=(e?2:c);}")
	checkLinear(t, "HLH//ifa{if(b<3){ifc{c:=1;}{}}{c:=2;}c:=3;}{c:=4;}", "HLHHHHH//d:=a;e:=(d=0);if(b<3){f:=(d?c:0);g:=(d?(f=0):0);c:=(f?1:c);}{c:=(d?2:c);}c:=(d?3:c);c:=(e?4:c);")
	checkLinear(t, "HL//ifa{ifb{}{}if1{}{}}{}", "HLHH//c:=a;d:=(c=0);ifb{}{}if1{}{}")
}

func TestSecretBranches(t *testing.T) {
	checkLinear(t, "H//ifa{}{}", "HHH//b:=a;c:=(b=0);")
	checkLinear(t, "HH//ifa{b:=1;}{}", "HHHH//c:=a;d:=(c=0);b:=(c?1:b);")
	checkLinear(t, "HH//ifa{}{b:=1;}", "HHHH//c:=a;d:=(c=0);b:=(d?1:b);")
	checkLinear(t, "HH//if(a<b){b:=1;a:=2;}{a:=3;b:=4;}a:=5;", "HHHH//c:=(a<b);d:=(c=0);b:=(c?1:b);a:=(c?2:a);a:=(d?3:a);b:=(d?4:b);a:=5;")
	checkLinear(t, "HH//ifa{b:=1;}{}ifb{a:=1;}{}", "HHHHHH//c:=a;d:=(c=0);b:=(c?1:b);e:=b;f:=(e=0);a:=(e?1:a);")
	checkLinear(t, "LH/H/ifP[a]{b:=1;}{}", "LHHH/H/c:=P[a];d:=(c=0);b:=(c?1:b);")
}

func TestNestedSecretBranches(t *testing.T) {
	checkLinear(t, "HH//ifa{ifb{a:=1;}{b:=2;}}{}", "HHHHHH//c:=a;d:=(c=0);e:=(c?b:0);f:=(c?(e=0):0);a:=(e?1:a);b:=(f?2:b);")
	checkLinear(t, "HH//ifa{}{ifb{a:=1;}{b:=2;}}", "HHHHHH//c:=a;d:=(c=0);e:=(d?b:0);f:=(d?(e=0):0);a:=(e?1:a);b:=(f?2:b);")
	checkLinear(t, "HH//ifa{ifb{a:=1;}{}a:=2;}{ifb{}{b:=3;}b:=4;}", "HHHHHHHH//c:=a;d:=(c=0);e:=(c?b:0);f:=(c?(e=0):0);a:=(e?1:a);a:=(c?2:a);g:=(d?b:0);h:=(d?(g=0):0);b:=(h?3:b);b:=(d?4:b);")
	checkLinear(t, "HH//ifa{}{ifb{}{ifa{b:=1;}{a:=2;}}}", "HHHHHHHH//c:=a;d:=(c=0);e:=(d?b:0);f:=(d?(e=0):0);g:=(f?a:0);h:=(f?(g=0):0);b:=(g?1:b);a:=(h?2:a);")
	checkLinear(t, "H//ifa{ifa{ifa{ifa{a:=0;}{a:=1;}}{}}{}}{}", "HHHHHHHHH//b:=a;c:=(b=0);d:=(b?a:0);e:=(b?(d=0):0);f:=(d?a:0);g:=(d?(f=0):0);h:=(f?a:0);i:=(f?(h=0):0);a:=(h?0:a);a:=(i?1:a);")
	checkLinear(t, "HH//repeat2{ifa{ifb{a:=0;}{}}{b:=1;}}", "HHHHHH//repeat2{c:=a;d:=(c=0);e:=(c?b:0);f:=(c?(e=0):0);a:=(e?0:a);b:=(d?1:b);}")
}

func TestConditionsThatTheirBranchesChange(t *testing.T) {
	checkLinear(t, "HH//ifa{a:=0;b:=1;}{b:=2;}", "HHHH//c:=a;d:=(c=0);a:=(c?0:a);b:=(c?1:b);b:=(d?2:b);")
	checkLinear(t, "HH//if(a=0){a:=1;b:=(a+b);}{a:=0;b:=(a-b);}", "HHHH//c:=(a=0);d:=(c=0);a:=(c?1:a);b:=(c?(a+b):b);a:=(d?0:a);b:=(d?(a-b):b);")
	checkLinear(t, "HH//ifa{ifb{a:=0;b:=0;}{a:=0;b:=1;}b:=(b+a);}{a:=1;}", "HHHHHH//c:=a;d:=(c=0);e:=(c?b:0);f:=(c?(e=0):0);a:=(e?0:a);b:=(e?0:b);a:=(f?0:a);b:=(f?1:b);b:=(c?(b+a):b);a:=(d?1:a);")
	checkLinear(t, "H/H/ifP[a]{P[a]:=0;a:=P[a];}{P[a]:=1;a:=P[a];}", "HHHHHHHH/H/<b=P[a]>c:=b;d:=(c=0);e:=0;<P[a]=e|c><f=P[a]>a:=(c?f:a);g:=1;<P[a]=g|d><h=P[a]>a:=(d?h:a);")
	checkLinear(t, "HH//repeat3{ifa{a:=(a-1);b:=(b+1);}{a:=b;}}", "HHHH//repeat3{c:=a;d:=(c=0);a:=(c?(a-1):a);b:=(c?(b+1):b);a:=(d?b:a);}")
}

func TestRepetitions(t *testing.T) {
	checkLinear(t, "LH//repeat3{a:=(a+1);repeat2{b:=a;}}", "LH//repeat3{a:=(a+1);repeat2{b:=a;}}")
	checkLinear(t, "LH//repeat2{ifb{b:=a;}{}a:=1;}", "LHHH//repeat2{c:=b;d:=(c=0);b:=(c?a:b);a:=1;}")
	checkLinear(t, "HH//ifa{repeat3{b:=(b+1);}}{repeat1{b:=2;repeat2{}}}", "HHHH//c:=a;d:=(c=0);repeat3{b:=(c?(b+1):b);}repeat1{b:=(d?2:b);repeat2{}}")
	checkLinear(t, "HH//ifa{repeat2{ifb{a:=0;}{a:=1;}b:=a;}}{}", "HHHHHH//c:=a;d:=(c=0);repeat2{e:=(c?b:0);f:=(c?(e=0):0);a:=(e?0:a);a:=(f?1:a);b:=(c?a:b);}")
}

func TestLabelsOfFreshVariables(t *testing.T) {
	// A read has the label of its array and its index.
	checkLinear(t, "HHX/L/b:=P[a];", "HHXH/L/<d=P[a]>b:=d;")
	checkLinear(t, "HHX/U/c:=P[a];", "HHXX/U/<d=P[a]>c:=d;")
	checkLinear(t, "XXX/L/c:=P[a];", "XXXX/L/<d=P[a]>c:=d;")
	checkLinear(t, "XHH/HU/a:=(P[c]+Q[c]);", "XHHHX/HU/<d=P[c]><e=Q[c]>a:=(d+e);")
	// A condition and a value that is stored have their own labels.
	checkLinear(t, "XX//ifa{b:=1;}{}", "XXXX//c:=a;d:=(c=0);b:=(c?1:b);")
	checkLinear(t, "HX//ifa{b:=1;}{}", "HXHH//c:=a;d:=(c=0);b:=(c?1:b);")
	checkLinear(t, "HX//if(1?a:b){b:=1;}{}", "HXXX//c:=(1?a:b);d:=(c=0);b:=(c?1:b);")
	checkLinear(t, "HU//if(a+b){}{}", "HUXX//c:=(a+b);d:=(c=0);")
	for label, value := range map[string]string{"L": "(a+7)", "H": "(a+b)", "U": "(a+c)", "X": "(b+d)"} {
		checkLinear(t, "LHUX/XX/P[b]:="+value+";", "LHUX"+label+"/XX/e:="+value+";<P[b]=e>")
	}
	checkLinear(t, "LHX/XU/P[b]:=Q[b];", "LHXXX/XU/<d=Q[b]>e:=d;<P[b]=e>")
	// The context is joined, whether it is secret or not.
	checkLinear(t, "UHX/L/ifa{c:=P[b];}{}", "UHXX/L/ifa{<d=P[b]>c:=d;}{}")
	checkLinear(t, "UHX/L/c:=P[b];ifa{}{}c:=P[b];", "UHXHH/L/<d=P[b]>c:=d;ifa{}{}<e=P[b]>c:=e;")
	checkLinear(t, "XHX/L/ifa{c:=P[b];}{}", "XHXXXX/L/d:=a;e:=(d=0);<f=P[b]>c:=(d?f:c);")
	checkLinear(t, "UHX//ifa{ifb{c:=1;}{}}{}", "UHXXX//ifa{d:=b;e:=(d=0);c:=(d?1:c);}{}")
	checkLinear(t, "UHX//ifa{}{ifb{}{c:=1;}}", "UHXXX//ifa{}{d:=b;e:=(d=0);c:=(e?1:c);}")
	checkLinear(t, "XHX//ifa{ifb{c:=1;}{}}{ifb{}{c:=2;}}", "XHXXXXXXX//d:=a;e:=(d=0);f:=(d?b:0);g:=(d?(f=0):0);c:=(f?1:c);h:=(e?b:0);i:=(e?(h=0):0);c:=(i?2:c);")
	checkLinear(t, "HUX//ifa{ifb{ifa{c:=1;}{}}{}ifa{c:=2;}{}}{}", "HUXHHXXHH//d:=a;e:=(d=0);ifb{f:=(d?a:0);g:=(d?(f=0):0);c:=(f?1:c);}{}h:=(d?a:0);i:=(d?(h=0):0);c:=(h?2:c);")
	checkLinear(t, "LH/H/ifa{repeat2{P[b]:=a;}}{}", "LHL/H/ifa{repeat2{c:=a;<P[b]=c>}}{}")
	checkLinear(t, "HHL/H/ifa{repeat2{P[b]:=c;}}{}P[b]:=c;", "HHLHHHL/H/d:=a;e:=(d=0);repeat2{f:=c;<P[b]=f|d>}g:=c;<P[b]=g>")
}

func TestOrderOfFreshVariables(t *testing.T) {
	checkLinear(t, "HH/HH/if(P[a]=Q[b]){P[a]:=Q[b];}{Q[b]:=1;}", "HHHHHHHHH/HH/<c=P[a]><d=Q[b]>e:=(c=d);f:=(e=0);<g=Q[b]>h:=g;<P[a]=h|e>i:=1;<Q[b]=i|f>")
	checkLinear(t, "LH/H/P[b]:=1;ifa{b:=P[b];}{P[b]:=2;}b:=P[b];", "LHLHLH/H/c:=1;<P[b]=c>ifa{<d=P[b]>b:=d;}{e:=2;<P[b]=e>}<f=P[b]>b:=f;")
	checkLinear(t, "H//ifa{ifa{}{}}{ifa{}{}}ifa{}{}", "HHHHHHHHH//b:=a;c:=(b=0);d:=(b?a:0);e:=(b?(d=0):0);f:=(c?a:0);g:=(c?(f=0):0);h:=a;i:=(h=0);")
}

// Results that would not be valid.

func TestTooManyVariables(t *testing.T) {
	rows := map[string]struct {
		arrays string
		text   string
		need   int
	}{
		"a read":                  {"L", "a:=P[a];", 1},
		"two reads":               {"L", "a:=(P[a]+P[a]);", 2},
		"a store":                 {"H", "P[a]:=1;", 1},
		"a branch":                {"", "ifa{}{}", 2},
		"two branches":            {"", "repeat1{ifa{}{}}ifa{a:=1;}{}", 4},
		"a branch within a block": {"", "if1{repeat2{ifa{}{}}}{}", 2},
	}
	for what, row := range rows {
		for vars := 1; vars <= 12; vars++ {
			p := parsed(t, strings.Repeat("H", vars)+"/"+row.arrays+"/"+row.text)
			if vars+row.need > 12 {
				checkNotLinear(t, what, p)
			} else if q, ok := impl.Linearize(p); !ok || len(q.Vars) != vars+row.need {
				t.Errorf("%s with %d variables: Linearize = %s, %v", what, vars, impl.FormatProgram(q), ok)
			}
		}
	}
	many := strings.Repeat("a:=(((P[a]+P[a])+(P[a]+P[a]))+P[a]);", 60)
	checkNotLinear(t, "300 fresh variables", parsed(t, "H/L/"+many))
	checkNotLinear(t, "120 fresh variables", parsed(t, "H//"+strings.Repeat("ifa{}{}", 60)))
}

func TestTooManyStatements(t *testing.T) {
	rows := map[string]struct {
		text string
		more int
	}{
		"a read":                    {"a:=P[a];", 4},
		"two reads":                 {"a:=(P[a]+P[a]);", 8},
		"a store":                   {"P[a]:=1;", 4},
		"a branch":                  {"ifa{}{}", 1},
		"a branch in a branch":      {"ifa{ifa{}{}}{}", 2},
		"a read in a branch":        {"if1{a:=P[a];}{}", 4},
		"a read in an else":         {"if1{}{a:=P[a];}", 4},
		"a read in a repetition":    {"repeat3{repeat3{a:=P[a];}}", 4},
		"a store in a branch":       {"ifa{P[a]:=1;}{}", 5},
		"a statement that is alone": {"a:=1;", 0},
	}
	for what, row := range rows {
		own := impl.CountStmts(parsed(t, "H/H/"+row.text))
		for total := 45; total <= 60; total++ {
			p := parsed(t, "H/H/"+row.text+strings.Repeat("a:=1;", total-own))
			if total+row.more > 60 {
				checkNotLinear(t, what, p)
			} else if q, ok := impl.Linearize(p); !ok || impl.CountStmts(q) != total+row.more {
				t.Errorf("%s among %d statements: Linearize = %s, %v", what, total, impl.FormatProgram(q), ok)
			}
		}
	}
}

// checkLimit checks that Linearize accepts a program just if that is expected.
func checkLimit(t *testing.T, text string, want bool) {
	t.Helper()
	p := parsed(t, text)
	if !want {
		checkNotLinear(t, text, p)
	} else if q, ok := impl.Linearize(p); !ok || !impl.ProgramValid(q) {
		t.Errorf("Linearize of %q = %s, %v", text, impl.FormatProgram(q), ok)
	}
}

// maskRows has statements with an expression E that is masked, and how many nodes the mask adds to it, or 0 if it is not masked.
var maskRows = map[string]int{
	"b:=E;": 0, "a!=E;": 0, "P[1]:=E;": 0, "P[a]:=E;": 0, "ifE{}{}": 0, "if1{b:=E;}{}": 0, "if1{}{ifE{b:=1;}{}}": 0, "repeat2{P[0]:=E;}": 0,
	"ifa{b:=E;}{}": 3, "ifa{}{b:=E;}": 3, "ifa{P[1]:=E;}{}": 4, "ifa{}{P[1]:=E;}": 4, "ifa{P[a]:=E;}{}": 0, "ifa{ifE{}{}}{}": 3, "ifa{}{ifE{}{}}": 3,
	"ifa{if1{b:=E;}{}}{}": 3, "ifa{repeat2{}repeat2{b:=E;}}{}": 3, "ifa{}{repeat3{if1{}{P[3]:=E;}}}": 4,
}

func TestTooManyNodes(t *testing.T) {
	for nodes, e := range map[int]string{
		10: "(((a+1)+(1+1))+P[1])", 11: "(((a+1)+(1+1))+(1+1))", 12: "(((a+1)+(1+1))+(P[1]+1))", 13: "(((a+1)+(1+1))+((1+1)+1))",
		14: "(((a+1)+(1+1))+((1+1)+P[1]))", 15: "(((a+1)+(1+1))+((1+1)+(1+1)))",
	} {
		for stmt, more := range maskRows {
			checkLimit(t, "HH/H/"+strings.Replace(stmt, "E", e, 1), nodes+more <= 15)
		}
	}
	// Only the nodes of the result count: a read at a secret index becomes one node.
	checkLimit(t, "HH/H/ifa{b:=(((a+1)+(1+1))+(P[a]+(1+1)));}{}", false)
	checkLimit(t, "HH/H/ifa{b:=(((a+1)+(1+1))+(P[a]+P[a]));}{}", true)
	checkLimit(t, "HH/H/ifa{b:=(((a+1)+(1+1))+((1+1)+P[a]));}{}", false)
	checkLimit(t, "HH/H/ifa{b:=(((a+P[a])+(1+1))+(P[a]+1));}{}", true)
}

func TestTooGreatDepth(t *testing.T) {
	for depth, list := range map[int][]string{
		3: {"((a+1)+1)", "(1+P[a])", "(P[0]+a)"},
		4: {"(((a+1)+1)+1)", "(1+(1+(1-a)))", "(1?(1?a:(1+2)):4)"},
		5: {"((((a+1)+1)+1)+1)", "(1+(1+(1-(1+a))))", "(((a+P[1])+2)+3)", "(1?2:(1?2:(1?2:(1?2:a))))"},
	} {
		for _, e := range list {
			for stmt, more := range maskRows {
				checkLimit(t, "HH/H/"+strings.Replace(stmt, "E", e, 1), depth < 5 || more == 0)
			}
		}
	}
	checkLimit(t, "HH/H/ifa{b:=(((P[a]+1)+1)+1);}{}", true)
	checkLimit(t, "HH/H/ifa{b:=(((P[1]+1)+1)+1);}{}", false)
	checkLimit(t, "HH/H/ifa{P[1]:=(1+(2+(3+P[a])));}{}", true)
	checkLimit(t, "HH/H/ifa{}{if(1+(2+(3+P[a]))){}{}}", true)
	checkLimit(t, "HH/H/ifa{}{if(a+(2+(3+P[0]))){}{}}", false)
}

func TestProgramsThatDoNotPassCheckFlow(t *testing.T) {
	for _, text := range []string{
		"LH//a:=b;", "LH//ifb{a:=1;}{}", "LU//a:=b;", "HU//ifb{a:=1;}{}", "LH/L/P[b]:=1;", "LH/L/P[a]:=b;", "LH/L/a:=P[b];", "LH//ifb{}{}a:=b;",
		"LU//a!=b;", "LH//ifb{b!=1;}{}", "LU//ifb{b!=1;}{}", "LX/L/b!=P[b];", "LU/U/repeat2{a!=P[0];}", "LH//ifb{}{repeat2{ifa{}{a!=1;}}}",
	} {
		p := parsed(t, text)
		if result, _ := impl.CheckFlow(p); result != impl.FlowAssign && result != impl.FlowRelease {
			t.Fatalf("%q passes CheckFlow", text)
		}
		checkNotLinear(t, text, p)
	}
	for what, p := range invalidPrograms() {
		checkNotLinear(t, what, p)
	}
}

// plainLinear writes what rules 1 to 7 make of a program.
type plainLinear struct {
	p      impl.Program
	labels []byte
}

func (l *plainLinear) fresh(m dataMarks) string {
	for n, row := range labelTable {
		if marksOf(n) == m {
			l.labels = append(l.labels, row.letter)
		}
	}
	return string(rune('a' + len(l.labels) - 1))
}

// expr writes the statements that are inserted for an expression, and what it becomes.
func (l *plainLinear) expr(e impl.Expr, context dataMarks) (string, string) {
	inserted := ""
	var kids []string
	for _, kid := range e.Kids {
		before, text := l.expr(kid, context)
		inserted, kids = inserted+before, append(kids, text)
	}
	switch e.Kind {
	case impl.ExprConst:
		return "", strconv.Itoa(e.Value)
	case impl.ExprVar:
		return "", string(rune('a' + e.Value))
	case impl.ExprSelect:
		return inserted, "(" + kids[0] + "?" + kids[1] + ":" + kids[2] + ")"
	case impl.ExprRead:
		array := string(rune('P' + e.Value))
		if !exprMarks(l.p, e.Kids[0]).secret {
			return "", array + "[" + kids[0] + "]"
		}
		v := l.fresh(exprMarks(l.p, e).and(context))
		return readText(v, array, kids[0]), v
	}
	return inserted, "(" + kids[0] + "+-*&^=<"[e.Kind-4:e.Kind-3] + kids[1] + ")"
}

func (l *plainLinear) block(list []impl.Stmt, mask string, context dataMarks) string {
	text := ""
	for _, s := range list {
		text += l.stmt(s, mask, context)
	}
	return text
}

func (l *plainLinear) stmt(s impl.Stmt, mask string, context dataMarks) string {
	if s.Kind == impl.StmtRepeat {
		return "repeat" + strconv.Itoa(s.Count) + "{" + l.block(s.Body, mask, context) + "}"
	}
	inserted, value := l.expr(s.Value, context)
	marks, target := exprMarks(l.p, s.Value).and(context), string(rune('a'+s.Target))
	switch s.Kind {
	case impl.StmtAssign:
		return inserted + target + ":=" + maskedText(mask, value, target) + ";"
	case impl.StmtRelease:
		return inserted + target + "!=" + value + ";"
	case impl.StmtIf:
		if !exprMarks(l.p, s.Value).secret {
			body := l.block(s.Body, mask, marks)
			return inserted + "if" + value + "{" + body + "}{" + l.block(s.Else, mask, marks) + "}"
		}
		v := l.fresh(marks)
		w := l.fresh(marks)
		inserted += v + ":=" + maskedText(mask, value, "0") + ";" + w + ":=" + maskedText(mask, "("+v+"=0)", "0") + ";"
		inserted += l.block(s.Body, v, marks)
		return inserted + l.block(s.Else, w, marks)
	}
	array := string(rune('P' + s.Target))
	_, index := l.expr(s.Index, context)
	if exprMarks(l.p, s.Index).secret {
		v := l.fresh(marks)
		return inserted + v + ":=" + value + ";" + storeText(array, index, v, mask)
	}
	return inserted + array + "[" + index + "]:=" + maskedText(mask, value, array+"["+index+"]") + ";"
}

// plainlyLinear returns the program that Linearize must return for one that passes CheckFlow, and whether there is one.
func plainlyLinear(p impl.Program) (impl.Program, bool) {
	l := plainLinear{p, []byte(impl.FormatLabels(p.Vars))}
	body := l.block(p.Body, "", dataMarks{})
	return impl.ParseProgram(string(l.labels) + "/" + impl.FormatLabels(p.Arrays) + "/" + body)
}

// mostlySecret makes most labels of a program secret and trusted, so that more of it is replaced.
func (s *source) mostlySecret(p impl.Program) impl.Program {
	p = clonedProgram(p)
	for _, list := range [][]int{p.Vars, p.Arrays} {
		for i := range list {
			list[i] = []int{0, 0, 1, 1, 1, 1, 2, 3}[s.below(8)]
		}
	}
	return p
}

// someSecretProgram returns a valid program with at most that many variables, most of which are secret. Most such programs pass CheckFlow.
func (s *source) someSecretProgram(vars int) impl.Program {
	p := s.mostlySecret(s.someProgram(vars))
	if s.below(3) > 0 {
		p.Body = withoutReleases(p.Body)
	}
	if inferred, ok := impl.InferLabels(p); ok && s.below(8) > 0 {
		p = inferred
	}
	return p
}

func TestManyLinearizedPrograms(t *testing.T) {
	numbers := source(30)
	seen := map[string]int{}
	for range 12000 {
		p := numbers.someSecretProgram(7)
		text := impl.FormatProgram(p)
		q, ok := impl.Linearize(p)
		want, wanted := impl.Program{}, false
		flow, strict := plainChecks(p)
		if flow == "fine" {
			want, wanted = plainlyLinear(p)
		}
		if ok != wanted || !equalPrograms(q, want) {
			t.Errorf("Linearize of %q = %q, %v, want %q", text, impl.FormatProgram(q), ok, impl.FormatProgram(want))
			continue
		}
		if flow == "fine" && !ok {
			strict = "too large"
		}
		word := strings.TrimRight(strict, " 0123456789")
		if seen[word]++; !ok {
			continue
		}
		if strict == "fine" && !equalPrograms(p, q) {
			t.Errorf("Linearize changed %q to %q", text, impl.FormatProgram(q))
		}
		if again, ok := impl.Linearize(q); !ok || !equalPrograms(q, again) {
			t.Errorf("Linearize changed %q to %q", impl.FormatProgram(q), impl.FormatProgram(again))
		}
		for range 4 {
			checkPromise(t, p, q, &numbers)
		}
	}
	for word, least := range map[string]int{"fine": 3000, "assign": 300, "release": 300, "branch": 700, "address": 400, "too large": 150} {
		if seen[word] < least {
			t.Errorf("only %d programs had the result %s", seen[word], word)
		}
	}
}

func TestSmallProgramsWithAllLabelsAreLinearized(t *testing.T) {
	numbers := source(31)
	for _, text := range []string{
		"LL//ifa{b:=1;}{b:=2;}", "LL/L/b:=P[a];", "LL/L/P[a]:=b;", "LLL//ifa{ifb{c:=1;}{}}{c:=2;}", "LL/L/ifa{b:=P[b];}{}", "LL/L/ifa{P[b]:=1;}{P[1]:=b;}",
		"LL/L/ifP[a]{b:=1;}{}", "LL/L/a!=P[b];", "LL/L/repeat2{ifa{a:=P[b];}{}}", "LL/LL/P[a]:=Q[b];", "LLL//repeat2{ifa{b!=c;}{a:=b;}}",
	} {
		for _, p := range relabelings(parsed(t, text)) {
			q, ok := impl.Linearize(p)
			want, wanted := impl.Program{}, false
			if flow, _ := plainChecks(p); flow == "fine" {
				want, wanted = plainlyLinear(p)
			}
			if ok != wanted || !equalPrograms(q, want) {
				t.Errorf("Linearize of %q = %q, %v, want %q", impl.FormatProgram(p), impl.FormatProgram(q), ok, impl.FormatProgram(want))
			} else if ok {
				checkPromise(t, p, q, &numbers)
			}
		}
	}
}

// checkExtends checks ExtendsProgram, and that memories are extended and restricted if and only if it is true.
func checkExtends(t *testing.T, what string, p impl.Program, q impl.Program, want bool) {
	t.Helper()
	if got := impl.ExtendsProgram(p, q); got != want {
		t.Errorf("%s: ExtendsProgram is %v for %q and %q", what, got, impl.FormatProgram(p), impl.FormatProgram(q))
	}
	numbers := source(32)
	m := numbers.someMemory(p)
	extended, ok := impl.ExtendMemory(p, q, m)
	if ok != want || !want && !isZeroMemory(extended) {
		t.Errorf("%s: ExtendMemory = %s, %v", what, memoryText(extended), ok)
	}
	m = numbers.someMemory(q)
	restricted, ok := impl.RestrictMemory(p, q, m)
	if ok != want || !want && !isZeroMemory(restricted) {
		t.Errorf("%s: RestrictMemory = %s, %v", what, memoryText(restricted), ok)
	}
}

func TestExtendedPrograms(t *testing.T) {
	for _, row := range []struct {
		p       string
		q       string
		forward bool
		back    bool
	}{
		{"L//", "L//", true, true},
		{"LH/XU/", "LH/XU/", true, true},
		{"LH/XU/", "LHX/XU/", true, false},
		{"L//", "LLLLLLLLLLLL//", true, false},
		{"LHUXLHUXLHUX/HU/", "LHUXLHUXLHUX/HU/", true, true},
		// The statements do not count.
		{"LH/X/a:=b;ifa{}{}", "LHU/X/repeat2{c!=b;}", true, false},
		{"LH/X/a:=1;", "LH/X/", true, true},
		// Another label of the first, of the last and of a variable between them.
		{"LHU/X/", "HHU/X/", false, false},
		{"LHU/X/", "LUUX/X/", false, false},
		{"LHU/X/", "LHX/X/", false, false},
		{"LHU/X/", "LHXX/X/", false, false},
		// The variables are behind others.
		{"LHU/X/", "XLHU/X/", false, false},
		{"LLH/X/", "LHL/X/", false, false},
		// Other arrays.
		{"LH/XU/", "LH/XX/", false, false},
		{"LH/XU/", "LHL/HU/", false, false},
		{"LH/XU/", "LH/UX/", false, false},
		{"LH/X/", "LH/XX/", false, false},
		{"LH/X/", "LHX/XX/", false, false},
		{"LH/X/", "LHX/XL/", false, false},
		{"LH//", "LHL/L/", false, false},
		{"LH/XU/", "LHL/X/", false, false},
		{"LH/X/", "LHL//", false, false},
	} {
		p, q := parsed(t, row.p), parsed(t, row.q)
		checkExtends(t, row.p+" and "+row.q, p, q, row.forward)
		checkExtends(t, row.q+" and "+row.p, q, p, row.back)
		checkExtends(t, row.p, p, p, true)
		checkExtends(t, row.q, q, q, true)
	}
}

func TestExtendedProgramsOfAllDeclarations(t *testing.T) {
	lists := labelLists(2)
	for _, vars := range lists[1:] {
		for _, others := range lists[1:] {
			for _, arrays := range lists[:5] {
				for _, more := range lists[:5] {
					want := strings.HasPrefix(impl.FormatLabels(others), impl.FormatLabels(vars)) && slices.Equal(arrays, more)
					checkExtends(t, "small programs", impl.Program{Vars: vars, Arrays: arrays}, impl.Program{Vars: others, Arrays: more}, want)
				}
			}
		}
	}
}

func TestInvalidProgramsDoNotExtend(t *testing.T) {
	for what, p := range invalidPrograms() {
		checkExtends(t, what, p, p, false)
		q := impl.Program{Vars: p.Vars, Arrays: p.Arrays}
		checkExtends(t, what, p, q, false)
		checkExtends(t, what, q, p, false)
		longer := impl.Program{Vars: append(slices.Clone(p.Vars), 0), Arrays: p.Arrays}
		checkExtends(t, what, p, longer, false)
		longer.Body = p.Body
		checkExtends(t, what, q, longer, impl.ProgramValid(q) && impl.ProgramValid(longer))
		checkExtends(t, what, p, widest(), false)
		checkExtends(t, what, widest(), p, false)
	}
	for _, p := range []impl.Program{{Vars: []int{0, 1}, Arrays: []int{4}}, {Vars: []int{0, -1}, Arrays: []int{0}}, {Vars: []int{0, 4}, Arrays: []int{0}}, {Arrays: []int{0}}, {Vars: make([]int, 13), Arrays: []int{0}}} {
		checkExtends(t, "invalid labels", p, p, false)
		checkExtends(t, "invalid labels", impl.Program{Vars: []int{0}, Arrays: []int{0}}, p, false)
		checkExtends(t, "invalid labels", p, impl.Program{Vars: []int{0, 1, 2}, Arrays: []int{4}}, false)
	}
}

// checkMemories checks ExtendMemory from p to q, and RestrictMemory the other way.
func checkMemories(t *testing.T, p string, q string, short string, long string) {
	t.Helper()
	before, after := parsed(t, p), parsed(t, q)
	m, ok := impl.ExtendMemory(before, after, memoryIn(short))
	if !ok || memoryText(m) != long || !impl.MemoryValid(after, m) {
		t.Errorf("ExtendMemory of %s from %s to %s = %s, %v, want %s", short, p, q, memoryText(m), ok, long)
	}
	back, ok := impl.RestrictMemory(before, after, m)
	if !ok || memoryText(back) != short || !impl.MemoryValid(before, back) {
		t.Errorf("RestrictMemory of %s from %s to %s = %s, %v, want %s", memoryText(m), q, p, memoryText(back), ok, short)
	}
	for v := len(before.Vars); v < len(after.Vars); v++ {
		m.Vals[v] = 255 - v
	}
	back, ok = impl.RestrictMemory(before, after, m)
	if !ok || memoryText(back) != short {
		t.Errorf("RestrictMemory of %s from %s to %s = %s, %v, want %s", memoryText(m), q, p, memoryText(back), ok, short)
	}
}

func TestExtendedAndRestrictedMemories(t *testing.T) {
	checkMemories(t, "L//", "L//", "0", "0")
	checkMemories(t, "L//", "LH//", "255", "255 0")
	checkMemories(t, "LH/L/", "LH/L/a:=1;", "1 2/3 4 5 6", "1 2/3 4 5 6")
	checkMemories(t, "LH/L/a:=1;", "LHUX/L/", "1 2/3 4 5 6", "1 2 0 0/3 4 5 6")
	checkMemories(t, "X/HU/", "XXX/HU/", "9/1 2 3 4/0 0 255 0", "9 0 0/1 2 3 4/0 0 255 0")
	checkMemories(t, "L/LL/", "LHUXLHUXLHUX/LL/", "7/1 2 3 4/5 6 7 8", "7 0 0 0 0 0 0 0 0 0 0 0/1 2 3 4/5 6 7 8")
	checkMemories(t, "LHUXLHUXLHUX//", "LHUXLHUXLHUX//", "1 2 3 4 5 6 7 8 9 10 11 12", "1 2 3 4 5 6 7 8 9 10 11 12")
}

// checkNoMemory checks that m is neither extended as a memory of p nor restricted as one of q, as given by the two flags.
func checkNoMemory(t *testing.T, p impl.Program, q impl.Program, text string, ofP bool, ofQ bool) {
	t.Helper()
	m := memoryIn(text)
	if got, ok := impl.ExtendMemory(p, q, m); ok != ofP || !ofP && !isZeroMemory(got) {
		t.Errorf("ExtendMemory of %s from %q to %q = %v, %v", text, impl.FormatProgram(p), impl.FormatProgram(q), got, ok)
	}
	if got, ok := impl.RestrictMemory(p, q, m); ok != ofQ || !ofQ && !isZeroMemory(got) {
		t.Errorf("RestrictMemory of %s from %q to %q = %v, %v", text, impl.FormatProgram(q), impl.FormatProgram(p), got, ok)
	}
}

func TestMemoriesThatAreNotExtended(t *testing.T) {
	p, q := parsed(t, "LH/L/a:=1;"), parsed(t, "LHUX/L/b:=1;")
	checkNoMemory(t, p, q, "1 2/3 4 5 6", true, false)
	checkNoMemory(t, p, q, "1 2 3 4/3 4 5 6", false, true)
	for _, text := range []string{
		"", "1", "1 2", "1 2 3", "1 2 3 4", "1/3 4 5 6", "1 2 3/3 4 5 6", "1 2 3 4 5/3 4 5 6", "/3 4 5 6", "1 2/", "1 2 3 4/", "1 2/3 4 5", "1 2 3 4/3 4 5", "1 2/3 4 5 6 7", "1 2 3 4/3 4 5 6 7",
		"1 2/3 4 5 6/7 8 9 10", "1 2 3 4/3 4 5 6/7 8 9 10", "-1 2/3 4 5 6", "1 256/3 4 5 6", "1 2/3 4 256 6", "1 2/-1 4 5 6", "-1 2 3 4/3 4 5 6", "1 256 3 4/3 4 5 6", "1 2 -1 4/3 4 5 6", "1 2 3 256/3 4 5 6", "1 2 3 4/3 4 5 256", "1 2 3 4/-1 4 5 6",
	} {
		checkNoMemory(t, p, q, text, false, false)
		checkNoMemory(t, q, p, text, false, false)
		checkNoMemory(t, p, impl.Program{}, text, false, false)
		checkNoMemory(t, impl.Program{}, q, text, false, false)
	}
	// Memories of both, but one program does not extend the other.
	for _, text := range []string{"1 2/3 4 5 6", "1 2 3 4/3 4 5 6"} {
		checkNoMemory(t, q, p, text, false, false)
		checkNoMemory(t, p, parsed(t, "LX/L/"), text, false, false)
		checkNoMemory(t, p, parsed(t, "LH/H/"), text, false, false)
		checkNoMemory(t, parsed(t, "LHUU/L/"), q, text, false, false)
	}
}

func TestExtendedMemoriesOfManyPrograms(t *testing.T) {
	numbers := source(33)
	for range 2000 {
		q := numbers.someProgram(12)
		p := impl.Program{Vars: q.Vars[:1+numbers.below(len(q.Vars))], Arrays: q.Arrays}
		m, n := numbers.someMemory(p), numbers.someMemory(q)
		extended, okExtended := impl.ExtendMemory(p, q, m)
		back, okBack := impl.RestrictMemory(p, q, extended)
		if !okExtended || !okBack || memoryText(back) != memoryText(m) || len(extended.Vals) != len(q.Vars) || slices.ContainsFunc(extended.Vals[len(p.Vars):], func(n int) bool { return n != 0 }) {
			t.Errorf("%s is extended to %s and restricted to %s", memoryText(m), memoryText(extended), memoryText(back))
		}
		restricted, okRestricted := impl.RestrictMemory(p, q, n)
		again, okAgain := impl.ExtendMemory(p, q, restricted)
		clear(n.Vals[len(p.Vars):])
		if !okRestricted || !okAgain || memoryText(again) != memoryText(n) {
			t.Errorf("%s is restricted to %s and extended to %s", memoryText(n), memoryText(restricted), memoryText(again))
		}
	}
}

// linearText has every kind of statement, replaced by each of the rules.
const linearText = "LHL/HH/repeat2{ifb{Q[c]:=Q[b];b:=Q[b];if1{b:=a;}{}}{}}P[b]:=c;b:=P[b];ifa{c!=a;}{}P[2]:=c;"

// roomy returns p with unused capacity behind many of its slices, which has the value 77.
func roomy(p impl.Program) impl.Program {
	p = clonedProgram(p)
	p.Vars, p.Arrays, p.Body = slices.Grow(p.Vars, 20), slices.Grow(p.Arrays, 3), slices.Grow(p.Body, 80)
	var widen func(list []impl.Stmt)
	widenExpr := func(e *impl.Expr) {
		e.Kids = slices.Grow(e.Kids, 3)
		for i := range e.Kids {
			e.Kids[i].Kids = slices.Grow(e.Kids[i].Kids, 2)
		}
	}
	widen = func(list []impl.Stmt) {
		for i := range list {
			s := &list[i]
			widenExpr(&s.Index)
			widenExpr(&s.Value)
			s.Body, s.Else = slices.Grow(s.Body, 30), slices.Grow(s.Else, 30)
			widen(s.Body)
			widen(s.Else)
		}
	}
	widen(p.Body)
	fillSpareProgram(p)
	return p
}

// isRoomKept reports whether the unused capacity is as roomy made it.
func isRoomKept(p impl.Program) bool {
	kept := true
	for _, list := range [][]int{p.Vars, p.Arrays} {
		kept = kept && len(list) < cap(list) && !slices.ContainsFunc(list[len(list):cap(list)], func(n int) bool { return n != 77 })
	}
	isChangedExpr := func(e impl.Expr) bool { return !equalExprs(e, constant(77)) }
	isChangedStmt := func(s impl.Stmt) bool { return !equalStmts(s, repeat(77)) }
	var lookAtKids func(kids []impl.Expr)
	lookAtKids = func(kids []impl.Expr) {
		kept = kept && !slices.ContainsFunc(kids[len(kids):cap(kids)], isChangedExpr)
		for _, kid := range kids {
			lookAtKids(kid.Kids)
		}
	}
	var look func(list []impl.Stmt)
	look = func(list []impl.Stmt) {
		kept = kept && len(list) < cap(list) && !slices.ContainsFunc(list[len(list):cap(list)], isChangedStmt)
		for _, s := range list {
			lookAtKids(s.Index.Kids)
			lookAtKids(s.Value.Kids)
			look(s.Body)
			look(s.Else)
		}
	}
	look(p.Body)
	return kept
}

// memoryUsed adds every number, expression and statement in the slices of a program, including unused capacity, to used.
// It reports whether none of them was there.
func memoryUsed(p impl.Program, used map[any]bool) bool {
	alone := true
	add := func(place any) {
		alone = alone && !used[place]
		used[place] = true
	}
	for _, list := range [][]int{p.Vars, p.Arrays} {
		list = list[:cap(list)]
		for i := range list {
			add(&list[i])
		}
	}
	var addKids func(kids []impl.Expr)
	addKids = func(kids []impl.Expr) {
		kids = kids[:cap(kids)]
		for i := range kids {
			add(&kids[i])
			addKids(kids[i].Kids)
		}
	}
	var addBlock func(list []impl.Stmt)
	addBlock = func(list []impl.Stmt) {
		list = list[:cap(list)]
		for i := range list {
			add(&list[i])
			addKids(list[i].Index.Kids)
			addKids(list[i].Value.Kids)
			addBlock(list[i].Body)
			addBlock(list[i].Else)
		}
	}
	addBlock(p.Body)
	return alone
}

func TestLinearizeKeepsArguments(t *testing.T) {
	p := roomy(parsed(t, linearText))
	q, ok := impl.Linearize(p)
	if !ok {
		t.Fatalf("Linearize does not accept %q", linearText)
	}
	q = roomy(q)
	keptP, keptQ := clonedProgram(p), clonedProgram(q)
	m, n := spareMemory(memoryIn("1 2 3/4 5 6 7/8 9 10 11")), spareMemory(impl.Memory{Vals: make([]int, len(q.Vars)), Arrays: [][]int{{1, 2, 3, 4}, {5, 6, 7, 8}}})
	keptM, keptN := memoryText(m), memoryText(n)
	impl.Linearize(p)
	impl.ExtendsProgram(p, q)
	impl.ExtendsProgram(q, p)
	_, extended := impl.ExtendMemory(p, q, m)
	_, restricted := impl.RestrictMemory(p, q, n)
	if !extended || !restricted || !reflect.DeepEqual(p, keptP) || !reflect.DeepEqual(q, keptQ) || memoryText(m) != keptM || memoryText(n) != keptN {
		t.Error("a function changed its argument")
	}
	if !isSpareKept(m) || !isSpareKept(n) || !isRoomKept(p) || !isRoomKept(q) {
		t.Error("a function changed what is beyond its argument")
	}
}

func TestLinearizedProgramsShareNoMemory(t *testing.T) {
	for _, text := range []string{linearText, "LHUX/HU/a:=1;", "HH/H/ifa{P[3]:=b;P[b]:=(P[b]+P[a]);}{}", "LH/H/ifa{P[a]:=(b+P[a]);}{repeat2{P[a]:=P[a];}}", "LH/HH/repeat3{P[b]:=Q[b];}"} {
		p := roomy(parsed(t, text))
		first, ok := impl.Linearize(p)
		second, okSecond := impl.Linearize(p)
		want := impl.FormatProgram(second)
		used := map[any]bool{}
		memoryUsed(p, used)
		if !ok || !okSecond || !memoryUsed(first, used) || !memoryUsed(second, used) {
			t.Errorf("a result of Linearize for %q shares memory with another result, with an argument or with itself", text)
		}
		if fillSpareProgram(first); impl.FormatProgram(first) != want {
			t.Errorf("parts of a result of Linearize for %q share memory", text)
		}
		if overwriteProgram(first); impl.FormatProgram(p) != text || impl.FormatProgram(second) != want {
			t.Errorf("a result of Linearize for %q shares memory with another one or with an argument", text)
		}
		if third, _ := impl.Linearize(p); impl.FormatProgram(third) != want {
			t.Errorf("Linearize keeps state")
		}
		if overwriteProgram(p); impl.FormatProgram(second) != want {
			t.Errorf("a result of Linearize for %q shares memory with an argument", text)
		}
	}
}

func TestLinearizeOfOneSlice(t *testing.T) {
	labels := []int{1, 1, 1, 1}
	kids := []impl.Expr{read(0, variable(0)), read(0, constant(1))}
	sum := operation(impl.ExprAdd, kids...)
	body := []impl.Stmt{assign(1, sum)}
	p := impl.Program{Vars: labels[:2], Arrays: labels[1:2], Body: []impl.Stmt{ifElse(constant(1), body, body), assign(1, sum), storeTo(0, variable(1), constant(1))}}
	q, ok := impl.Linearize(p)
	if want := full("HHHHHL/H/if1{<c=P[a]>b:=(c+P[1]);}{<d=P[a]>b:=(d+P[1]);}<e=P[a]>b:=(e+P[1]);f:=1;<P[b]=f>"); !ok || impl.FormatProgram(q) != want || !memoryUsed(q, map[any]bool{}) {
		t.Errorf("Linearize = %s, %v, want %s", impl.FormatProgram(q), ok, want)
	}
	if !slices.Equal(labels, []int{1, 1, 1, 1}) || impl.FormatProgram(p) != "HH/H/if1{b:=(P[a]+P[1]);}{b:=(P[a]+P[1]);}b:=(P[a]+P[1]);P[b]:=1;" {
		t.Errorf("Linearize changed its argument to %s", impl.FormatProgram(p))
	}
}

func TestExtendedMemoriesShareNoMemory(t *testing.T) {
	p, q := parsed(t, "LH/LL/"), parsed(t, "LHUX/LL/")
	shared := []int{1, 2, 3, 4, 5, 6, 7, 8}
	makers := map[string]func() (impl.Memory, bool){
		"ExtendMemory": func() (impl.Memory, bool) {
			return impl.ExtendMemory(p, q, impl.Memory{Vals: shared[:2], Arrays: [][]int{shared[:4], shared[2:6]}})
		},
		"ExtendMemory by nothing": func() (impl.Memory, bool) {
			return impl.ExtendMemory(p, p, impl.Memory{Vals: shared[:2], Arrays: [][]int{shared[:4], shared[2:6]}})
		},
		"RestrictMemory": func() (impl.Memory, bool) {
			return impl.RestrictMemory(p, q, impl.Memory{Vals: shared[:4], Arrays: [][]int{shared[:4], shared[2:6]}})
		},
		"RestrictMemory to the same": func() (impl.Memory, bool) {
			return impl.RestrictMemory(q, q, impl.Memory{Vals: shared[:4], Arrays: [][]int{shared[:4], shared[2:6]}})
		},
	}
	for what, maker := range makers {
		first, ok := maker()
		second, _ := maker()
		text := memoryText(second)
		for i, list := range [][]int{first.Vals, first.Arrays[0], first.Arrays[1]} {
			list = list[:cap(list)]
			for j := range list {
				list[j] = 100 + i
			}
		}
		alone := true
		for i, list := range [][]int{first.Vals, first.Arrays[0], first.Arrays[1]} {
			alone = alone && !slices.ContainsFunc(list[:cap(list)], func(n int) bool { return n != 100+i })
		}
		if !ok || !alone || !slices.Equal(shared, []int{1, 2, 3, 4, 5, 6, 7, 8}) || memoryText(second) != text {
			t.Errorf("%s shares memory: %v, %v", what, shared, memoryText(first))
		}
		shared[0], shared[2], shared[5] = 90, 91, 92
		if memoryText(second) != text {
			t.Errorf("a result of %s shares memory with an argument", what)
		}
		shared[0], shared[2], shared[5] = 1, 3, 6
		if third, _ := maker(); memoryText(third) != text {
			t.Errorf("%s keeps state", what)
		}
	}
}

func TestLinearizeAtTheSameTime(t *testing.T) {
	p := parsed(t, linearText)
	q, _ := impl.Linearize(p)
	want := impl.FormatProgram(q)
	var group sync.WaitGroup
	for range 8 {
		group.Go(func() {
			for range 100 {
				got, ok := impl.Linearize(p)
				if !ok || impl.FormatProgram(got) != want || !impl.ExtendsProgram(p, got) {
					t.Errorf("Linearize = %s, %v", impl.FormatProgram(got), ok)
				}
			}
		})
	}
	group.Wait()
}
