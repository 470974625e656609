package tests

import (
	"math"
	"reflect"
	"slices"
	"strconv"
	"strings"
	"sync"
	"testing"

	"loop.example/constanttime/impl"
)

// cacheIn returns the cache whose lines contain these numbers.
func cacheIn(text string) impl.Cache { return impl.Cache{Lines: numbersIn(text)} }

// cacheText is the opposite of cacheIn.
func cacheText(c impl.Cache) string { return numbersText(c.Lines) }

// validCaches are all caches that are valid.
var validCaches = []string{
	"-2 -2", "-2 -1", "-2 1", "-2 3", "-1 -2", "-1 -1", "-1 1", "-1 3",
	"0 -2", "0 -1", "0 1", "0 3", "2 -2", "2 -1", "2 1", "2 3",
}

// farNumbers look like numbers that lines may contain, if only some of their bits are seen, or are the greatest and least ones.
var farNumbers = []int{1 << 8, 1<<8 + 1, 1<<16 + 2, 1<<31 - 1, 1 << 31, 1<<32 - 1, 1 << 32, 1<<32 + 1, 1<<32 + 3, math.MaxInt - 1, math.MaxInt, math.MinInt, math.MinInt + 1, -1 << 32, -1<<32 + 2}

// invalidCaches returns caches that are not valid.
func invalidCaches() map[string]impl.Cache {
	caches := map[string]impl.Cache{"very many lines": {Lines: slices.Repeat([]int{-1}, veryDeep)}, "no slice": {}, "an empty slice": {Lines: []int{}}}
	texts := []string{
		"-2", "-1", "0", "1", "-2 -2 -2", "-1 -1 -1", "0 1 2", "0 1 -1", "0 1 0", "2 3 0 1", "-1 -1 -1 -1",
		"-3 -1", "-1 -3", "1 -1", "-1 0", "3 -1", "-1 2", "4 -1", "-1 4", "5 -1", "-1 5", "1 0", "3 2", "1 1", "0 0", "2 2", "3 3", "2 0", "-3 -3", "4 5", "6 7", "-4 1", "0 -4", "-3 1", "0 -3", "0 5", "4 1",
	}
	for _, text := range texts {
		caches[text] = cacheIn(text)
	}
	for _, n := range farNumbers {
		caches["the first line has "+strconv.Itoa(n)] = impl.Cache{Lines: []int{n, -1}}
		caches["the second line has "+strconv.Itoa(n)] = impl.Cache{Lines: []int{-1, n}}
	}
	return caches
}

// eventLetters are the letters of the kinds of events, by their numbers: branches, reads, writes, releases and steps.
const eventLetters = ".brwos"

// eventsIn returns the events of a text like that of traces, where an event may also be a step.
func eventsIn(text string) []impl.Event {
	var list []impl.Event
	for word := range strings.FieldsSeq(text) {
		list = append(list, impl.Event{Kind: strings.IndexByte(eventLetters, word[0]), Value: numbersIn(word[1:])[0]})
	}
	return list
}

// isAccess reports whether an event is a read or a write.
func isAccess(event impl.Event) bool {
	return event.Kind == impl.EventRead || event.Kind == impl.EventWrite
}

// plainContents states for each address the line of its block and the block.
var plainContents = [][]int{{0, 0}, {0, 0}, {1, 1}, {1, 1}, {0, 2}, {0, 2}, {1, 3}, {1, 3}}

// plainCacheRun returns the lines of a valid cache after a trace, and the marks of the hits, if all its accesses are to addresses.
// A line has what the last access before put there.
func plainCacheRun(text string, list []impl.Event) (string, string, bool) {
	var visited [][]int
	for line, content := range numbersIn(text) {
		visited = append(visited, []int{line, content})
	}
	last := func(line int) int {
		for _, visit := range slices.Backward(visited) {
			if visit[0] == line {
				return visit[1]
			}
		}
		return 77
	}
	hits := ""
	for _, event := range list {
		if !isAccess(event) {
			continue
		}
		if event.Value < 0 || event.Value > 7 {
			return "", "", false
		}
		visit := plainContents[event.Value]
		hits += marks([]bool{last(visit[0]) == visit[1]})
		visited = append(visited, visit)
	}
	return strconv.Itoa(last(0)) + " " + strconv.Itoa(last(1)), hits, true
}

// plainTime returns the time of a trace with that many steps and these marks of hits.
func plainTime(list []impl.Event, hits string) int {
	time := 0
	for _, event := range list {
		if event.Kind == 5 {
			time++
		}
	}
	return time + 10*strings.Count(hits, "0")
}

// checkCacheRun checks the functions for a valid cache and a trace of which all accesses are to addresses, and returns the lines and the marks of the hits.
func checkCacheRun(t *testing.T, text string, list []impl.Event) (string, string) {
	t.Helper()
	want, wantHits, ok := plainCacheRun(text, list)
	if !ok {
		t.Fatalf("%s has an access that is not to an address", plainTrace(list))
	}
	c, hits, ran := impl.CacheRun(cacheIn(text), list)
	if !ran || cacheText(c) != want || marks(hits) != wantHits || !impl.CacheValid(c) {
		t.Errorf("CacheRun of %s and %s = %s, %s, %v, want %s, %s", text, plainTrace(list), cacheText(c), marks(hits), ran, want, wantHits)
	}
	if got, time := impl.TraceTime(cacheIn(text), list), plainTime(list, wantHits); got != time {
		t.Errorf("TraceTime of %s and %s = %d, want %d", text, plainTrace(list), got, time)
	}
	x, seen := cacheIn(text), ""
	for _, event := range list {
		if isAccess(event) {
			after, hit := impl.AccessCache(x, event.Value)
			x, seen = after, seen+marks([]bool{hit})
		}
	}
	if cacheText(x) != want || seen != wantHits {
		t.Errorf("the accesses of %s one by one make %s of %s, with the hits %s, want %s, %s", plainTrace(list), cacheText(x), text, seen, want, wantHits)
	}
	return want, wantHits
}

// checkNoCacheRun checks that a trace is not run.
func checkNoCacheRun(t *testing.T, what string, c impl.Cache, list []impl.Event) {
	t.Helper()
	if after, hits, ok := impl.CacheRun(c, list); ok || len(after.Lines) != 0 || len(hits) != 0 {
		t.Errorf("%s: CacheRun of %.300s = %s, %s, %v", what, plainTrace(list), cacheText(after), marks(hits), ok)
	}
	if time := impl.TraceTime(c, list); time != -1 {
		t.Errorf("%s: TraceTime of %.300s = %d", what, plainTrace(list), time)
	}
}

// checkNoCache checks the results of all functions for a cache that is not valid.
func checkNoCache(t *testing.T, what string, c impl.Cache) {
	t.Helper()
	if impl.CacheValid(c) {
		t.Errorf("%s: CacheValid is true", what)
	}
	for _, address := range []int{-1, 0, 1, 2, 3, 4, 5, 6, 7, 8, math.MaxInt, math.MinInt} {
		if after, hit := impl.AccessCache(c, address); hit || len(after.Lines) != 0 {
			t.Errorf("%s: AccessCache to %d = %s, %v", what, address, cacheText(after), hit)
		}
	}
	for _, text := range []string{"", "s0", "s0 s1 s2", "b1 o7", "r0", "w7", "r0 r1 r4 w0", "s0 r0 s1", "r8", "w-1", "s0 r0 w8"} {
		checkNoCacheRun(t, what, c, eventsIn(text))
	}
	if probe := impl.ProbeCache(c); len(probe) != 0 {
		t.Errorf("%s: ProbeCache = %s", what, marks(probe))
	}
}

func TestConstantsOfCaches(t *testing.T) {
	if limits := []int{impl.CacheLines, impl.BlockSize, impl.MissCost, impl.MaxBlock}; !slices.Equal(limits, []int{2, 2, 10, 3}) {
		t.Errorf("the limits are %v", limits)
	}
}

func TestValidCaches(t *testing.T) {
	valid := map[string]bool{}
	for _, text := range validCaches {
		valid[text] = true
		if !impl.CacheValid(cacheIn(text)) {
			t.Errorf("CacheValid of %s is false", text)
		}
	}
	tried := 0
	for first := -6; first <= 9; first++ {
		for second := -6; second <= 9; second++ {
			c := impl.Cache{Lines: []int{first, second}}
			if got := impl.CacheValid(c); got != valid[cacheText(c)] {
				t.Errorf("CacheValid of %s = %v", cacheText(c), got)
			} else if got {
				tried++
			}
			// Each of the lines is right, but there is one too many or too few.
			for _, lines := range [][]int{{first}, {first, second, -1}, {first, second, -2}, {first, second, 0}, {first, second, first, second}} {
				if impl.CacheValid(impl.Cache{Lines: lines}) {
					t.Errorf("CacheValid of %v is true", lines)
				}
			}
		}
	}
	if tried != 16 || len(valid) != 16 {
		t.Errorf("%d caches are valid", tried)
	}
}

func TestInvalidCaches(t *testing.T) {
	for what, c := range invalidCaches() {
		checkNoCache(t, what, c)
	}
	// A slice of a valid cache that is too short, although there is a further line behind it.
	lines := []int{0, 1}
	checkNoCache(t, "a line behind the end", impl.Cache{Lines: lines[:1]})
	checkNoCache(t, "two lines behind the end", impl.Cache{Lines: lines[:0]})
}

func TestEmptyAndPrimedCaches(t *testing.T) {
	for _, row := range []struct {
		name, want, probe string
		make              func() impl.Cache
	}{{"EmptyCache", "-1 -1", "11", impl.EmptyCache}, {"PrimeCache", "-2 -2", "00", impl.PrimeCache}} {
		c := row.make()
		if cacheText(c) != row.want || !impl.CacheValid(c) {
			t.Errorf("%s = %s", row.name, cacheText(c))
		}
		if probe := marks(impl.ProbeCache(c)); probe != row.probe {
			t.Errorf("ProbeCache of %s = %s, want %s", row.name, probe, row.probe)
		}
		for address := range 8 {
			if _, hit := impl.AccessCache(c, address); hit {
				t.Errorf("an access to %d is a hit in %s", address, row.name)
			}
		}
	}
}

func TestAccesses(t *testing.T) {
	for _, row := range []struct {
		before  string
		address int
		after   string
		hit     bool
	}{
		// A line that is empty.
		{"-1 -1", 0, "0 -1", false}, {"-1 -1", 1, "0 -1", false}, {"-1 -1", 2, "-1 1", false}, {"-1 -1", 3, "-1 1", false}, {"-1 -1", 4, "2 -1", false}, {"-1 -1", 5, "2 -1", false}, {"-1 -1", 6, "-1 3", false}, {"-1 -1", 7, "-1 3", false},
		// A line with a block of the attacker.
		{"-2 -2", 0, "0 -2", false}, {"-2 -2", 1, "0 -2", false}, {"-2 -2", 2, "-2 1", false}, {"-2 -2", 3, "-2 1", false}, {"-2 -2", 4, "2 -2", false}, {"-2 -2", 5, "2 -2", false}, {"-2 -2", 6, "-2 3", false}, {"-2 -2", 7, "-2 3", false},
		// Hits.
		{"0 1", 0, "0 1", true}, {"0 1", 1, "0 1", true}, {"0 1", 2, "0 1", true}, {"0 1", 3, "0 1", true}, {"2 3", 4, "2 3", true}, {"2 3", 5, "2 3", true}, {"2 3", 6, "2 3", true}, {"2 3", 7, "2 3", true},
		// The other block that shares the line.
		{"0 1", 4, "2 1", false}, {"0 1", 5, "2 1", false}, {"0 1", 6, "0 3", false}, {"0 1", 7, "0 3", false}, {"2 3", 0, "0 3", false}, {"2 3", 1, "0 3", false}, {"2 3", 2, "2 1", false}, {"2 3", 3, "2 1", false},
		// The other line stays as it is.
		{"-1 -2", 0, "0 -2", false}, {"-2 -1", 4, "2 -1", false}, {"-2 -1", 3, "-2 1", false}, {"0 -2", 1, "0 -2", true}, {"-2 3", 7, "-2 3", true}, {"2 -1", 6, "2 3", false},
	} {
		c, hit := impl.AccessCache(cacheIn(row.before), row.address)
		if cacheText(c) != row.after || hit != row.hit {
			t.Errorf("AccessCache of %s to %d = %s, %v, want %s, %v", row.before, row.address, cacheText(c), hit, row.after, row.hit)
		}
	}
}

func TestAccessesToEveryAddress(t *testing.T) {
	hits, misses := 0, 0
	for _, text := range validCaches {
		for address := range 8 {
			want := numbersIn(text)
			line, block := plainContents[address][0], plainContents[address][1]
			wantHit := want[line] == block
			want[line] = block
			c, hit := impl.AccessCache(cacheIn(text), address)
			if cacheText(c) != numbersText(want) || hit != wantHit || !impl.CacheValid(c) {
				t.Errorf("AccessCache of %s to %d = %s, %v, want %s, %v", text, address, cacheText(c), hit, numbersText(want), wantHit)
			}
			if again, hit := impl.AccessCache(c, address); cacheText(again) != cacheText(c) || !hit {
				t.Errorf("the second access to %d makes %s of %s, and is a hit: %v", address, cacheText(again), cacheText(c), hit)
			}
			if wantHit {
				hits++
			} else {
				misses++
			}
		}
	}
	if hits != 32 || misses != 96 {
		t.Errorf("%d accesses were hits and %d were not", hits, misses)
	}
}

func TestAccessesToNoAddress(t *testing.T) {
	others := append([]int{-1, -2, -3, -8, 8, 9, 10, 12, 16, 255, 256}, farNumbers...)
	for _, text := range validCaches {
		for _, address := range others {
			if c, hit := impl.AccessCache(cacheIn(text), address); hit || len(c.Lines) != 0 {
				t.Errorf("AccessCache of %s to %d = %s, %v", text, address, cacheText(c), hit)
			}
			for _, kind := range []int{impl.EventRead, impl.EventWrite} {
				wrong := impl.Event{Kind: kind, Value: address}
				for _, around := range [][]string{{"", ""}, {"", "r0"}, {"r0", ""}, {"s0 r0 w1", "s1 r2"}, {"", "s0 s1"}, {"s0 b1", ""}} {
					list := append(append(eventsIn(around[0]), wrong), eventsIn(around[1])...)
					checkNoCacheRun(t, text, cacheIn(text), list)
				}
			}
		}
	}
	// Two of them, and very many events before one.
	checkNoCacheRun(t, "two", impl.EmptyCache(), eventsIn("r8 w9"))
	checkNoCacheRun(t, "many", impl.EmptyCache(), append(slices.Repeat(eventsIn("s0 r1"), 1<<16), eventsIn("w8")...))
}

// cacheRow is a trace with the cache before and after it, the marks of the hits, and the time.
type cacheRow struct {
	before, trace, after, hits string
	time                       int
}

func checkCacheRow(t *testing.T, row cacheRow) {
	t.Helper()
	after, hits := checkCacheRun(t, row.before, eventsIn(row.trace))
	time := impl.TraceTime(cacheIn(row.before), eventsIn(row.trace))
	if after != row.after || hits != row.hits || time != row.time {
		t.Errorf("%s makes %s of %s with the hits %s in the time %d, want %s, %s, %d", row.trace, after, row.before, hits, time, row.after, row.hits, row.time)
	}
}

func TestRunsOfCaches(t *testing.T) {
	for _, row := range []cacheRow{
		{"-1 -1", "", "-1 -1", "", 0}, {"-2 3", "", "-2 3", "", 0}, {"0 1", "", "0 1", "", 0},
		// The example, as reads, as writes, and as both.
		{"-1 -1", "r0 r1 r4 r0", "0 -1", "0100", 30}, {"-1 -1", "w0 w1 w4 w0", "0 -1", "0100", 30}, {"-1 -1", "r0 w1 w4 r0", "0 -1", "0100", 30}, {"-1 -1", "s0 r0 s1 r1 s2 w4 s3 r0 s4", "0 -1", "0100", 35},
		// Each kind of event by itself.
		{"-1 -1", "r0", "0 -1", "0", 10}, {"-1 -1", "w0", "0 -1", "0", 10}, {"-1 -1", "s0", "-1 -1", "", 1}, {"-1 -1", "b0", "-1 -1", "", 0}, {"-1 -1", "b1", "-1 -1", "", 0}, {"-1 -1", "o0", "-1 -1", "", 0}, {"-1 -1", ".0", "-1 -1", "", 0},
		{"0 1", "r0", "0 1", "1", 0}, {"0 1", "w3", "0 1", "1", 0}, {"0 1", "s4", "0 1", "", 1}, {"0 1", "b0", "0 1", "", 0}, {"0 1", "o6", "0 1", "", 0},
		// What does not access memory has a Value that is not an address.
		{"-1 -1", "s8 s-1 s399 b8 b-1 o255 o8 o-1 .8 .-1", "-1 -1", "", 3}, {"2 -2", "s8 r4 b9 r5 o77 w2 s255", "2 1", "110", 12}, {"-1 -1", "o8 r0", "0 -1", "0", 10}, {"-1 -1", "r7 b-5", "-1 3", "0", 10},
		// Two accesses to an element.
		{"-1 -1", "r0 r0", "0 -1", "01", 10}, {"-1 -1", "w7 w7", "-1 3", "01", 10}, {"-1 -1", "w5 r5", "2 -1", "01", 10}, {"-2 -2", "r2 w2 r2", "-2 1", "011", 10},
		// Two elements of a block.
		{"-1 -1", "r0 r1", "0 -1", "01", 10}, {"-1 -1", "r1 r0", "0 -1", "01", 10}, {"-1 -1", "r2 w3", "-1 1", "01", 10}, {"-1 -1", "w5 r4", "2 -1", "01", 10}, {"-1 -1", "w6 w7", "-1 3", "01", 10},
		// Two blocks that are beside each other and share no line.
		{"-1 -1", "r1 r2", "0 1", "00", 20}, {"-1 -1", "r3 r4", "2 1", "00", 20}, {"-1 -1", "r5 r6", "2 3", "00", 20}, {"-1 -1", "r0 r7 r1 r6", "0 3", "0011", 20}, {"-1 -1", "r0 r2 r0 r2", "0 1", "0011", 20},
		// Two blocks that share a line.
		{"-1 -1", "r0 r4 r0 r4", "2 -1", "0000", 40}, {"-1 -1", "r2 r6 w3 w7", "-1 3", "0000", 40}, {"-1 -1", "r1 w5", "2 -1", "00", 20}, {"-1 -1", "w6 r2", "-1 1", "00", 20}, {"0 1", "r4 r6 r0 r2", "0 1", "0000", 40}, {"0 1", "r0 r4 r4 r2", "2 1", "1011", 10},
		// Steps alone, hits alone, misses alone.
		{"-1 -1", "s0 s1 s2 s2 s1", "-1 -1", "", 5}, {"0 3", "r0 r1 w6 w7 r0", "0 3", "11111", 0}, {"-2 -2", "r0 r2 w4 w6", "2 3", "0000", 40}, {"0 3", "s0 r0 s1 r6 s2", "0 3", "11", 3}, {"0 3", "s0 r4 s1 w2 s2", "2 1", "00", 23},
		// Empty lines and those of the attacker differ only after the run.
		{"-2 -2", "r0 r1 r4 r0", "0 -2", "0100", 30}, {"-2 -1", "r2", "-2 1", "0", 10}, {"-1 -2", "r0", "0 -2", "0", 10},
	} {
		checkCacheRow(t, row)
	}
}

func TestEventsOfOtherKinds(t *testing.T) {
	for _, kind := range append([]int{-3, -2, -1, 0, 1, 4, 6, 7, 8, 10, 1<<32 + 2, 1<<32 + 3, 1<<32 + 5}, farNumbers...) {
		for _, value := range append([]int{-1, 0, 3, 7, 8}, farNumbers...) {
			other := impl.Event{Kind: kind, Value: value}
			list := []impl.Event{other, {Kind: 5, Value: 3}, other, {Kind: 2, Value: 3}, other, {Kind: 3, Value: 2}, other}
			c, hits, ok := impl.CacheRun(impl.EmptyCache(), list)
			if time := impl.TraceTime(impl.EmptyCache(), list); !ok || cacheText(c) != "-1 1" || marks(hits) != "01" || time != 11 {
				t.Errorf("with events of the kind %d and the value %d, CacheRun = %s, %s, %v and TraceTime = %d", kind, value, cacheText(c), marks(hits), ok, time)
			}
			checkCacheRun(t, "-2 -1", list[:1])
		}
	}
	// Only the kind of a step matters.
	for _, value := range farNumbers {
		if time := impl.TraceTime(impl.EmptyCache(), []impl.Event{{Kind: 5, Value: value}}); time != 1 {
			t.Errorf("TraceTime of a step with the value %d = %d", value, time)
		}
	}
}

func TestAllShortRunsOfCaches(t *testing.T) {
	choices := eventsIn("r0 r1 w2 w3 r4 w5 w6 r7 s0 b1 o9")
	count := 0
	for _, text := range validCaches {
		for _, first := range choices {
			for _, second := range choices {
				for _, third := range choices {
					checkCacheRun(t, text, []impl.Event{first, second, third})
					count++
				}
			}
		}
	}
	if count != 16*11*11*11 {
		t.Errorf("%d runs were tried", count)
	}
}

// someEvents returns a trace. If it is wild, some of its accesses are not to addresses.
func (s *source) someEvents(size int, wild bool) []impl.Event {
	list := make([]impl.Event, s.below(size))
	for i := range list {
		list[i] = impl.Event{Kind: s.below(7), Value: s.below(8)}
		if !isAccess(list[i]) || wild && s.below(20) == 0 {
			list[i].Value = s.below(300) - 20
		}
	}
	return list
}

func TestManyRunsOfCaches(t *testing.T) {
	numbers := source(100)
	seen := map[string]int{}
	for i := range 20000 {
		text := validCaches[numbers.below(16)]
		list := numbers.someEvents(60, i%2 == 0)
		if _, _, ok := plainCacheRun(text, list); !ok {
			checkNoCacheRun(t, text, cacheIn(text), list)
			seen["no run"]++
			continue
		}
		after, hits := checkCacheRun(t, text, list)
		seen["hits"] += strings.Count(hits, "1")
		seen["misses"] += strings.Count(hits, "0")
		// The run may be cut anywhere.
		cut := numbers.below(len(list) + 1)
		middle, first, ok := impl.CacheRun(cacheIn(text), list[:cut])
		last, second, okToo := impl.CacheRun(middle, list[cut:])
		if !ok || !okToo || cacheText(last) != after || marks(first)+marks(second) != hits {
			t.Errorf("%s in two parts makes %s of %s with the hits %s and %s", plainTrace(list), cacheText(last), text, marks(first), marks(second))
		}
		if time := impl.TraceTime(cacheIn(text), list[:cut]) + impl.TraceTime(middle, list[cut:]); time != impl.TraceTime(cacheIn(text), list) {
			t.Errorf("%s in two parts takes %d", plainTrace(list), time)
		}
		seen["runs"]++
	}
	for what, least := range map[string]int{"no run": 2000, "runs": 8000, "hits": 10000, "misses": 10000} {
		if seen[what] < least {
			t.Errorf("%s was seen only %d times", what, seen[what])
		}
	}
}

func TestLongRunsOfCaches(t *testing.T) {
	for _, row := range []struct {
		round, after, hit string
		time              int
	}{{"r0 s1 w1", "0 -1", "1", 1<<16 + 10}, {"w0 s1 r4", "2 -1", "0", 21 << 16}, {"b1 s8 o9", "-1 -1", "", 1 << 16}} {
		list := slices.Repeat(eventsIn(row.round), 1<<16)
		c, hits, ok := impl.CacheRun(impl.EmptyCache(), list)
		want := strings.Repeat(row.hit, 2<<16)
		if row.hit == "1" {
			want = "0" + want[1:]
		}
		if !ok || cacheText(c) != row.after || marks(hits) != want || impl.TraceTime(impl.EmptyCache(), list) != row.time {
			t.Errorf("a long trace of %s: CacheRun = %s, %d hits and misses, %v, and TraceTime = %d", row.round, cacheText(c), len(hits), ok, impl.TraceTime(impl.EmptyCache(), list))
		}
	}
}

func TestProbes(t *testing.T) {
	for _, text := range validCaches {
		want := ""
		for _, content := range numbersIn(text) {
			want += marks([]bool{content != -2})
		}
		if probe := impl.ProbeCache(cacheIn(text)); marks(probe) != want {
			t.Errorf("ProbeCache of %s = %s, want %s", text, marks(probe), want)
		}
	}
	for text, want := range map[string]string{"-2 -2": "00", "-2 -1": "01", "-1 -2": "10", "0 -2": "10", "-2 3": "01", "2 1": "11", "-1 -1": "11"} {
		if probe := marks(impl.ProbeCache(cacheIn(text))); probe != want {
			t.Errorf("ProbeCache of %s = %s, want %s", text, probe, want)
		}
	}
}

func TestPrimeAndProbe(t *testing.T) {
	for trace, want := range map[string]string{
		"": "00", "s0 b1 o3": "00", "r0": "10", "w1": "10", "r2": "01", "w3": "01", "r4": "10", "w5": "10", "r6": "01", "w7": "01",
		"r0 r4": "10", "r0 r1 r4 r0": "10", "r0 r2": "11", "w7 r5": "11", "r2 r6 w3": "01", "s0 r0 s1 r6": "11", "o2 b6 r1": "10", "r0 r1 r2 r3 r4 r5 r6 r7": "11",
	} {
		c, _, ok := impl.CacheRun(impl.PrimeCache(), eventsIn(trace))
		if probe := marks(impl.ProbeCache(c)); !ok || probe != want {
			t.Errorf("ProbeCache after %s = %s, %v, want %s", trace, probe, ok, want)
		}
	}
	// An attacker sees in the cache at which index a secret was: elements 0 and 1 are in a line, and 2 and 3 in the other one.
	p := parsed(t, "LH/L/a:=P[b];")
	for index := range 256 {
		_, trace, _ := impl.RunProgram(p, impl.Memory{Vals: []int{0, index}, Arrays: [][]int{{1, 2, 3, 4}}})
		c, hits, ok := impl.CacheRun(impl.PrimeCache(), trace)
		want := []string{"10", "01"}[index/2%2]
		if probe := marks(impl.ProbeCache(c)); !ok || probe != want || marks(hits) != "0" {
			t.Errorf("ProbeCache after a read at %d = %s, %v, want %s", index, probe, ok, want)
		}
	}
}

func TestIndicesOfOneElement(t *testing.T) {
	for _, row := range []struct {
		text, memory, hits, after string
	}{
		// The second index gives the same element, the same block, or another block.
		{"LL/L/a:=P[0];a:=P[4];", "0 0/5 6 7 8", "01", "0 -1"}, {"LL/L/a:=P[3];a:=P[255];", "0 0/5 6 7 8", "01", "-1 1"}, {"LL/L/a:=P[1];a:=P[8];", "0 0/5 6 7 8", "01", "0 -1"}, {"LL/L/a:=P[1];a:=P[6];", "0 0/5 6 7 8", "00", "0 1"},
		{"LL/L/a:=P[b];P[2]:=a;", "0 2/5 6 7 8", "01", "-1 1"}, {"LL/L/a:=P[b];P[2]:=a;", "0 6/5 6 7 8", "01", "-1 1"}, {"LL/L/a:=P[b];P[2]:=a;", "0 254/5 6 7 8", "01", "-1 1"}, {"LL/L/P[b]:=1;P[2]:=a;", "0 253/5 6 7 8", "00", "0 1"},
		// That element of another array is in another block, which shares the line.
		{"LL/LL/a:=P[0];a:=Q[0];", "0 0/5 6 7 8/1 2 3 4", "00", "2 -1"}, {"LL/LL/a:=P[0];a:=Q[4];a:=P[4];", "0 0/5 6 7 8/1 2 3 4", "000", "0 -1"}, {"LL/LL/Q[3]:=a;a:=Q[7];", "0 0/5 6 7 8/1 2 3 4", "01", "-1 3"}, {"LL/LL/a:=(P[2]+Q[1]);b:=(P[7]*Q[4]);", "0 0/5 6 7 8/1 2 3 4", "0011", "2 1"},
		// A repetition.
		{"LL/LL/repeat3{a:=P[b];b:=(b+1);}", "0 0/5 6 7 8/1 2 3 4", "010", "0 1"}, {"LL/LL/repeat3{a:=P[b];a:=Q[b];}", "0 3/5 6 7 8/1 2 3 4", "000000", "-1 3"},
	} {
		p, m := parsed(t, row.text), memoryIn(row.memory)
		_, trace, _ := impl.RunProgram(p, m)
		if after, hits := checkCacheRun(t, "-1 -1", trace); after != row.after || hits != row.hits {
			t.Errorf("%s makes %s, with the hits %s, want %s, %s", row.text, after, hits, row.after, row.hits)
		}
		// Compiled code has the same accesses, and a time.
		c, _ := impl.CompileProgram(p)
		_, trace, _ = impl.RunCode(c, m)
		if after, hits := checkCacheRun(t, "-1 -1", trace); after != row.after || hits != row.hits {
			t.Errorf("the code of %s makes %s, with the hits %s, want %s, %s", row.text, after, hits, row.after, row.hits)
		}
	}
}

// checkRunTime checks RunTime for code and a memory, and returns its result.
func checkRunTime(t *testing.T, c impl.Code, m impl.Memory) (int, bool) {
	t.Helper()
	time, ok := impl.RunTime(c, m)
	_, trace, halts := impl.RunCode(c, m)
	want := 0
	if halts {
		want = impl.TraceTime(impl.EmptyCache(), trace)
		if _, hits, _ := plainCacheRun("-1 -1", trace); want != plainTime(trace, hits) {
			t.Errorf("TraceTime of %s = %d", plainTrace(trace), want)
		}
	}
	if time != want || ok != halts {
		t.Errorf("RunTime of %q with %s = %d, %v, want %d, %v", plainCodeText(c), memoryText(m), time, ok, want, halts)
	}
	return time, ok
}

func TestRunTime(t *testing.T) {
	for _, row := range []struct {
		declared, list, memory string
		time                   int
	}{
		{"L/", "halt", "9", 1}, {"L/L", "halt", "9/1 2 3 4", 1}, {"L/", "const 0 5; put 0 0; halt", "9", 3}, {"L/", "release 0; fence; jump 3; halt; halt", "9", 4},
		// Loads and stores.
		{"L/L", "load 0 0 0; halt", "9/1 2 3 4", 12}, {"L/L", "store 0 0 0; halt", "9/1 2 3 4", 12}, {"L/L", "load 0 0 0; load 1 0 2; halt", "9/1 2 3 4", 13}, {"L/L", "store 0 0 1; load 1 0 2; halt", "9/1 2 3 4", 13}, {"L/L", "load 0 0 0; load 1 0 0; halt", "9/1 2 3 4", 13}, {"L/L", "load 0 0 0; load 1 0 0; halt", "9/2 2 3 4", 23},
		{"L/LL", "load 0 0 1; load 0 1 1; load 0 0 1; halt", "9/1 2 3 4/5 6 7 8", 34}, {"L/LL", "const 2 2; load 0 0 1; load 0 1 2; load 0 0 1; store 1 2 0; halt", "9/1 2 3 4/5 6 7 8", 26},
		// A second index for the same element.
		{"L/L", "const 1 4; load 2 0 0; load 2 0 1; halt", "9/1 2 3 4", 14}, {"L/L", "const 1 6; load 2 0 0; load 2 0 1; halt", "9/1 2 3 4", 24}, {"L/L", "get 1 0; load 2 0 0; store 0 1 0; halt", "9/1 2 3 4", 14}, {"L/L", "get 1 0; load 2 0 0; store 0 1 0; halt", "10/1 2 3 4", 24},
		// Branches and loops.
		{"L/", "get 0 0; zero 0 3; fence; halt", "0", 3}, {"L/", "get 0 0; zero 0 3; fence; halt", "1", 4}, {"L/", "const 0 3; loop 0 1; halt", "9", 5}, {"L/", "loop 0 0; halt", "9", 257},
		{"L/L", "const 0 3; load 1 0 0; loop 0 1; halt", "9/1 2 3 4", 28}, {"L/L", "const 0 4; load 1 0 0; loop 0 1; halt", "9/1 2 3 4", 30}, {"L/LL", "const 0 3; load 1 0 0; load 1 1 0; loop 0 1; halt", "9/1 2 3 4/5 6 7 8", 71}, {"L/LL", "const 0 2; load 1 0 0; load 1 1 2; loop 0 1; halt", "9/1 2 3 4/5 6 7 8", 48},
		// What is not executed takes no time.
		{"L/L", "halt; load 0 0 0; halt", "9/1 2 3 4", 1}, {"L/L", "zero 0 2; load 0 0 0; halt", "9/1 2 3 4", 2},
	} {
		if time, ok := checkRunTime(t, codeIn(t, row.declared, row.list), memoryIn(row.memory)); !ok || time != row.time {
			t.Errorf("RunTime of %s with %s = %d, %v, want %d", row.list, row.memory, time, ok, row.time)
		}
	}
}

func TestLongestRunTime(t *testing.T) {
	for _, row := range []struct {
		in    impl.Instr
		extra int
	}{{instr(impl.OpFence), 0}, {instr(impl.OpRelease, 0), 0}, {instr(impl.OpLoad, 5, 0, 5), 10}, {instr(impl.OpStore, 0, 3, 3), 10}} {
		for _, steps := range []int{19972, 19999, 20000, 20001, 20100} {
			time, ok := checkRunTime(t, longCode(steps, row.in), memoryIn("3/0 5 6 7"))
			if want := steps + row.extra; ok != (steps <= 20000) || ok && time != want {
				t.Errorf("RunTime of code that halts as instruction %d = %d, %v", steps, time, ok)
			}
		}
	}
	// Each access is a miss: 256 rounds with 39 pairs of them.
	c := longCode(20000, instr(impl.OpFence))
	c.Arrays = []int{0, 0}
	for at := 1; at < 77; at++ {
		c.List[at] = instr(impl.OpLoad, 5, at%2, 6)
	}
	if time, ok := checkRunTime(t, c, memoryIn("3/0 5 6 7/0 1 2 3")); !ok || time != 20000+76*256*10 {
		t.Errorf("RunTime = %d, %v", time, ok)
	}
}

// checkNoRunTime checks that code has no time with a memory.
func checkNoRunTime(t *testing.T, what string, c impl.Code, m impl.Memory) {
	t.Helper()
	if time, ok := impl.RunTime(c, m); ok || time != 0 {
		t.Errorf("%s: RunTime = %d, %v", what, time, ok)
	}
}

func TestNoRunTime(t *testing.T) {
	for what, c := range invalidCodes() {
		checkNoRunTime(t, what, c, zeroMemory(c))
		checkNoRunTime(t, what, c, memoryIn("0"))
		checkNoRunTime(t, what, c, impl.Memory{})
	}
	for text, list := range invalidMemories() {
		p := parsed(t, text)
		for _, memory := range list {
			checkNoRunTime(t, text+" "+memory, impl.Code{Vars: p.Vars, Arrays: p.Arrays, List: []impl.Instr{instr(impl.OpHalt)}}, memoryIn(memory))
		}
	}
	for _, list := range []string{"jump 0", "fence; jump 0", "jump 0; halt", "zero 0 0; halt", "load 1 0 0; jump 0", "const 0 2; loop 0 0; halt", "store 0 0 0; jump 0"} {
		c := codeIn(t, "L/L", list)
		checkNoRunTime(t, list, c, memoryIn("7/0 0 0 0"))
		checkRunTime(t, c, memoryIn("7/0 0 0 0"))
	}
	c := codeIn(t, "L/", "get 0 0; zero 0 1; halt")
	checkNoRunTime(t, "a loop with 0", c, memoryIn("0"))
	if time, ok := impl.RunTime(c, memoryIn("1")); !ok || time != 3 {
		t.Errorf("RunTime = %d, %v", time, ok)
	}
}

func TestTimeOfManyCodes(t *testing.T) {
	numbers := source(101)
	times := map[int]bool{}
	halted, accessed := 0, 0
	for i := range 3000 {
		c := numbers.someVerified(i)
		m := numbers.someMemory(impl.Program{Vars: c.Vars, Arrays: c.Arrays})
		if _, halts := plainEventsOf(c, m, 500); !halts {
			continue
		}
		time, ok := checkRunTime(t, c, m)
		if !ok || time < 1 {
			t.Errorf("RunTime of %q with %s = %d, %v", plainCodeText(c), memoryText(m), time, ok)
		}
		times[time] = true
		halted++
		if _, trace, _ := impl.RunCode(c, m); slices.ContainsFunc(trace, isAccess) {
			accessed++
		}
	}
	if halted < 1500 || accessed < 500 || len(times) < 60 {
		t.Errorf("%d codes halted, %d accessed the memory, and they had %d times", halted, accessed, len(times))
	}
}

// checkEqualTimes checks that hits and times are equal where traces are, and returns whether the traces are.
func checkEqualTimes(t *testing.T, c impl.Code, m impl.Memory, d impl.Code, n impl.Memory) bool {
	t.Helper()
	_, trace, _ := impl.RunCode(c, m)
	_, other, _ := impl.RunCode(d, n)
	if plainTrace(trace) != plainTrace(other) {
		return false
	}
	time, _ := impl.RunTime(c, m)
	if otherTime, _ := impl.RunTime(d, n); time != otherTime {
		t.Errorf("%q with %s takes %d, and %q with %s takes %d", plainCodeText(c), memoryText(m), time, plainCodeText(d), memoryText(n), otherTime)
	}
	for _, text := range validCaches {
		after, hits, ok := impl.CacheRun(cacheIn(text), trace)
		afterOther, otherHits, okToo := impl.CacheRun(cacheIn(text), other)
		if !ok || !okToo || cacheText(after) != cacheText(afterOther) || marks(hits) != marks(otherHits) {
			t.Errorf("%q and %q make %s and %s of %s, with the hits %s and %s", plainCodeText(c), plainCodeText(d), cacheText(after), cacheText(afterOther), text, marks(hits), marks(otherHits))
		}
		if a, b := impl.TraceTime(cacheIn(text), trace), impl.TraceTime(cacheIn(text), other); a != b {
			t.Errorf("%q and %q take %d and %d", plainCodeText(c), plainCodeText(d), a, b)
		}
	}
	return true
}

func TestEqualTracesHaveEqualTimes(t *testing.T) {
	numbers := source(102)
	seen := map[string]int{}
	for i := range 6000 {
		c := numbers.someVerified(i)
		p := impl.Program{Vars: c.Vars, Arrays: c.Arrays}
		m := numbers.someMemory(p)
		n := numbers.changedAt(p, m, isSecret)
		events, halts := plainEventsOf(c, m, 500)
		if _, haltsToo := plainEventsOf(c, n, 500); !halts || !haltsToo || memoryText(m) == memoryText(n) {
			continue
		}
		seen["pairs"]++
		if !checkEqualTimes(t, c, m, c, n) {
			seen["different traces"]++
			if result, _ := impl.CheckCode(c); result == impl.FlowFine && !impl.CodeReleases(c) {
				t.Errorf("%q has different traces with %s and %s", plainCodeText(c), memoryText(m), memoryText(n))
			}
			continue
		}
		seen["equal traces"]++
		if slices.ContainsFunc(events, isAccess) {
			seen["equal traces with accesses"]++
		}
	}
	for what, least := range map[string]int{"pairs": 1500, "equal traces": 1000, "equal traces with accesses": 400, "different traces": 30} {
		if seen[what] < least {
			t.Errorf("%s were seen only %d times", what, seen[what])
		}
	}
	// Different code with the same trace.
	for _, pair := range [][]string{{"const 0 5; put 0 0; halt", "get 1 0; fence; halt"}, {"load 0 0 1; halt", "load 5 0 9; halt"}, {"const 1 4; load 0 0 1; halt", "get 1 1; load 0 0 1; halt"}, {"jump 1; halt", "zero 0 1; halt"}} {
		if !checkEqualTimes(t, codeIn(t, "LL/L", pair[0]), memoryIn("3 8/1 2 3 4"), codeIn(t, "LL/L", pair[1]), memoryIn("7 0/9 9 9 9")) {
			t.Errorf("%s and %s have different traces", pair[0], pair[1])
		}
	}
}

func TestTimesThatShowSecrets(t *testing.T) {
	for _, row := range []struct {
		list, memory, other string
		time, otherTime     int
	}{
		// A secret branch, a secret index in another block, and one in the same block, which the time does not show.
		{"get 0 1; zero 0 3; fence; halt", "5 0/1 2 3 4", "5 1/1 2 3 4", 3, 4}, {"load 0 0 0; get 1 1; load 2 0 1; halt", "5 1/1 2 3 4", "5 2/1 2 3 4", 14, 24}, {"load 0 0 0; get 1 1; load 2 0 1; halt", "5 0/1 2 3 4", "5 1/1 2 3 4", 14, 14}, {"load 0 0 0; get 1 1; store 0 1 2; halt", "5 3/1 2 3 4", "5 4/1 2 3 4", 24, 14},
	} {
		c := codeIn(t, "LH/L", row.list)
		time, _ := impl.RunTime(c, memoryIn(row.memory))
		other, _ := impl.RunTime(c, memoryIn(row.other))
		if time != row.time || other != row.otherTime {
			t.Errorf("%s takes %d with %s and %d with %s, want %d and %d", row.list, time, row.memory, other, row.other, row.time, row.otherTime)
		}
		if result, _ := impl.CheckCode(c); result == impl.FlowFine {
			t.Errorf("CheckCode of %s = %d", row.list, result)
		}
	}
}

func TestSecureCodeTakesEqualTimes(t *testing.T) {
	numbers := source(103)
	tried, accessed := 0, 0
	for range 2500 {
		p := numbers.someSecretProgram(6)
		c, ok := impl.CompileSecure(p)
		if !ok || !impl.ReleaseFree(p) {
			continue
		}
		q := impl.Program{Vars: c.Vars, Arrays: c.Arrays}
		m := numbers.someMemory(q)
		n := numbers.changedAt(q, m, isSecret)
		if _, trace, ok := impl.RunCode(c, m); !ok || memoryText(m) == memoryText(n) {
			continue
		} else if slices.ContainsFunc(trace, isAccess) {
			accessed++
		}
		tried++
		if !checkEqualTimes(t, c, m, c, n) {
			t.Errorf("%q has different traces with %s and %s", plainCodeText(c), memoryText(m), memoryText(n))
		}
	}
	if tried < 500 || accessed < 200 {
		t.Errorf("only %d codes were tried, of which %d access the memory", tried, accessed)
	}
}

// cacheTrace has hits, misses, and events of all kinds.
const cacheTrace = "s0 r0 s1 b1 w1 s2 r4 o8 r6 s3 w6 s4 r0 s399"

func TestCachesKeepArguments(t *testing.T) {
	spare := func(list []int) []int { return append(slices.Grow(slices.Clone(list), 2), 77, 77)[:len(list)] }
	texts := append([]string{"", "0", "1 0", "0 1 2", "-3 -3"}, validCaches...)
	wrong := impl.Event{Kind: 77, Value: 77}
	for _, text := range texts {
		for _, trace := range []string{"", cacheTrace, "r0 r8 r1", "r0"} {
			c := impl.Cache{Lines: spare(numbersIn(text))}
			list := append(slices.Clip(eventsIn(trace)), wrong, wrong)[:len(eventsIn(trace))]
			impl.CacheValid(c)
			for address := -1; address <= 8; address++ {
				impl.AccessCache(c, address)
			}
			impl.CacheRun(c, list)
			impl.TraceTime(c, list)
			impl.ProbeCache(c)
			if cacheText(c) != text || !slices.Equal(c.Lines[len(c.Lines):len(c.Lines)+2], []int{77, 77}) {
				t.Errorf("a function changed its argument %s to %s, or what is beyond it", text, cacheText(c))
			}
			if !slices.Equal(list, eventsIn(trace)) || !slices.Equal(list[len(list):len(list)+2], []impl.Event{wrong, wrong}) {
				t.Errorf("a function changed its argument %s to %s, or what is beyond it", trace, plainTrace(list))
			}
		}
	}
	for _, list := range []string{machineCode, "halt", "jump 0", "load 0 0 0; store 1 0 0; halt"} {
		c, m := spareCode(codeIn(t, "LHU/HX", list)), spareMemory(memoryIn("1 2 3/4 5 6 7/8 9 10 11"))
		keptCode := clonedCode(c)
		impl.RunTime(c, m)
		if !reflect.DeepEqual(c, keptCode) || !isSpareCodeKept(c) || memoryText(m) != "1 2 3/4 5 6 7/8 9 10 11" || !isSpareKept(m) {
			t.Errorf("RunTime changed its argument %s, or what is beyond it", list)
		}
	}
}

func TestCachesShareNoMemory(t *testing.T) {
	calls := map[string]func() []int{
		"EmptyCache": func() []int { return impl.EmptyCache().Lines },
		"PrimeCache": func() []int { return impl.PrimeCache().Lines },
	}
	for _, text := range validCaches {
		c := impl.Cache{Lines: append(slices.Clip(numbersIn(text)), 77, 77)[:2]}
		for _, trace := range []string{"", "s0", "r0 r1", cacheTrace} {
			list := eventsIn(trace)
			calls["CacheRun of "+text+" and "+trace] = func() []int { x, _, _ := impl.CacheRun(c, list); return x.Lines }
			checkAlone(t, "CacheRun", func() []bool { _, hits, _ := impl.CacheRun(c, list); return hits }, marks, true)
			checkAlone(t, "CacheRun", func() []bool { _, hits, _ := impl.CacheRun(c, list); return hits }, marks, false)
		}
		for address := range 8 {
			calls["AccessCache of "+text+" to "+strconv.Itoa(address)] = func() []int { x, _ := impl.AccessCache(c, address); return x.Lines }
		}
		checkAlone(t, "ProbeCache", func() []bool { return impl.ProbeCache(c) }, marks, true)
		checkAlone(t, "ProbeCache", func() []bool { return impl.ProbeCache(c) }, marks, false)
		for address := range 8 {
			used := map[*int]bool{}
			numbersUsed(used, c.Lines)
			x, _ := impl.AccessCache(c, address)
			y, _, _ := impl.CacheRun(c, eventsIn("r0"))
			z, _, _ := impl.CacheRun(c, nil)
			if !numbersUsed(used, x.Lines, y.Lines, z.Lines) {
				t.Errorf("a result of AccessCache or CacheRun for %s shares memory", text)
			}
		}
	}
	for what, call := range calls {
		checkAlone(t, what, call, numbersText, 77)
		if used := map[*int]bool{}; !numbersUsed(used, call(), call()) {
			t.Errorf("two results of %s share memory", what)
		}
	}
}

func TestCachesAtTheSameTime(t *testing.T) {
	c, m := codeIn(t, "LHU/HX", "load 2 0 1; store 1 2 0; load 2 0 1; halt"), memoryIn("1 2 3/4 5 6 7/8 9 10 11")
	list := eventsIn(cacheTrace)
	var group sync.WaitGroup
	for i := range 8 {
		text := validCaches[2*i]
		want, wantHits, _ := plainCacheRun(text, list)
		group.Go(func() {
			for range 200 {
				after, hits, ok := impl.CacheRun(cacheIn(text), list)
				time, ran := impl.RunTime(c, m)
				if !ok || cacheText(after) != want || marks(hits) != wantHits || impl.TraceTime(cacheIn(text), list) != plainTime(list, wantHits) || !ran || time != 34 {
					t.Errorf("CacheRun of %s = %s, %s, %v and RunTime = %d, %v", text, cacheText(after), marks(hits), ok, time, ran)
				}
			}
		})
	}
	group.Wait()
}
