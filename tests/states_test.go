package tests

import (
	"math/big"
	"slices"
	"strconv"
	"strings"
	"testing"

	"loop.example/g01337/impl"
)

// The tests of promise 2: chances behind steps add up, and means until a goal are those of the first step.

// rowsOf lists all rows of so many numbers that are of together.
func rowsOf(many, of int) [][]int {
	if many == 1 {
		return [][]int{{of}}
	}
	var list [][]int
	for n := 0; n <= of; n++ {
		for _, rest := range rowsOf(many-1, of-n) {
			list = append(list, append([]int{n}, rest...))
		}
	}
	return list
}

// allStates lists all states of so many and an Of.
func allStates(many, of int) []impl.States {
	tables := [][][]int{nil}
	for range many {
		var longer [][][]int
		for _, t := range tables {
			for _, r := range rowsOf(many, of) {
				longer = append(longer, append(slices.Clone(t), r))
			}
		}
		tables = longer
	}
	var list []impl.States
	for _, t := range tables {
		list = append(list, impl.States{Of: of, Rows: t})
	}
	return list
}

// mixedStates makes states up by a fixed rule, with many steps or with few.
func mixedStates(many, of, count int) []impl.States {
	var list []impl.States
	z := many*100 + of
	next := func(below int) int {
		z = (z*1103515245 + 12345) % (1 << 31)
		return z >> 8 % below
	}
	for k := range count {
		s := impl.States{Of: of}
		for range many {
			r := make([]int, many)
			followers := 1 + next(1+k%many)
			for range of {
				r[(next(followers)*7+k)%many]++
			}
			if k%3 == 0 {
				r = make([]int, many)
				for left := of; left > 0; {
					part := 1 + next(left)
					r[next(many)] += part
					left -= part
				}
			}
			s.Rows = append(s.Rows, r)
		}
		list = append(list, s)
	}
	return list
}

func someStates() []impl.States {
	var list []impl.States
	for of := 1; of <= impl.MaxOf; of++ {
		list = append(list, allStates(1, of)...)
		list = append(list, allStates(2, of)...)
		for many := 3; many <= impl.MaxStates; many++ {
			list = append(list, mixedStates(many, of, 60)...)
		}
	}
	for _, k := range [][2]int{{3, 1}, {3, 2}, {3, 3}, {4, 1}, {5, 1}} {
		list = append(list, allStates(k[0], k[1])...)
	}
	return list
}

func part(s impl.States, from, to int) *big.Rat {
	return big.NewRat(int64(s.Rows[from][to]), int64(s.Of))
}

// comesTo tells by trying all steps whether some lead from one state to another one without a shut one.
func comesTo(s impl.States, from, to, shut int) bool {
	seen := make([]bool, len(s.Rows))
	var try func(here int) bool
	try = func(here int) bool {
		if here == to {
			return true
		}
		if here == shut || seen[here] {
			return false
		}
		seen[here] = true
		for next, n := range s.Rows[here] {
			if n > 0 && try(next) {
				return true
			}
		}
		return false
	}
	return try(from)
}

func mustParseStates(t *testing.T, text string) impl.States {
	t.Helper()
	s, ok := impl.ParseStates(text)
	if !ok {
		t.Fatal("no states", text)
	}
	return s
}

func mustList(t *testing.T, want, got []int, ok bool, what ...any) {
	t.Helper()
	if !ok || !slices.Equal(want, got) {
		t.Fatal(what, "are", got, ok, "and not", want)
	}
}

func mustNotList(t *testing.T, got []int, ok bool, what ...any) {
	t.Helper()
	if ok || len(got) > 0 {
		t.Fatal(what, "are", got, ok, "and do not fail")
	}
}

func TestExamplesOfChapter2(t *testing.T) {
	s := mustParseStates(t, "2;1,1,0;1,0,1;0,0,2")
	ends, ok := impl.EndStates(s)
	mustList(t, []int{2}, ends, ok, "ends")
	classes, ok := impl.StateClasses(s)
	if len(classes) != 2 || !ok {
		t.Fatal("classes", classes, ok)
	}
	mustList(t, []int{0, 1}, classes[0], ok, "class 0")
	mustList(t, []int{2}, classes[1], ok, "class 1")
	lasting, ok := impl.LastingStates(s)
	mustList(t, []int{2}, lasting, ok, "lasting")
	n, d, ok := impl.MeanUntilState(s, 0, 2)
	mustTell(t, big.NewRat(6, 1), n, d, ok, "mean from 0")
	n, d, ok = impl.MeanUntilState(s, 1, 2)
	mustTell(t, big.NewRat(4, 1), n, d, ok, "mean from 1")
	after, d, ok := impl.StatesAfter(s, 0, 2)
	mustList(t, []int{2, 1, 1}, after, ok && d == 4, "after 2 steps, of", d)
	n, d, ok = impl.ChanceToVisit(s, 1, 0)
	mustTell(t, big.NewRat(1, 2), n, d, ok, "visit")
	shares, d, ok := impl.SharesOfStates(mustParseStates(t, "3;1,2;1,2"))
	mustList(t, []int{1, 2}, shares, ok && d == 3, "shares, of", d)
	if n, ok := impl.PeriodOfState(mustParseStates(t, "1;0,1;1,0"), 0); n != 2 || !ok {
		t.Error("period", n, ok)
	}
}

func TestPromise2ChancesBehindStepsAddUp(t *testing.T) {
	for _, s := range someStates() {
		for from := range s.Rows {
			want := make([]int, len(s.Rows))
			want[from] = 1
			of := 1
			for steps := 0; steps <= impl.MaxSteps; steps++ {
				got, d, ok := impl.StatesAfter(s, from, steps)
				mustList(t, want, got, ok && d == of, "after", s, from, steps, "of", d)
				sum := 0
				for _, n := range got {
					sum += n
				}
				if sum != d {
					t.Fatal("after", s, from, steps, got, "are not", d, "together")
				}
				next := make([]int, len(s.Rows))
				for here, n := range got {
					for to, m := range s.Rows[here] {
						next[to] += n * m
					}
				}
				want, of = next, of*s.Of
			}
			for to := range s.Rows {
				n, d, ok := impl.ChanceOfStep(s, from, to)
				mustTell(t, part(s, from, to), n, d, ok, "step", s, from, to)
			}
		}
	}
}

// The equations of promise 2 have one solution each for the states that surely come to a goal.
func TestPromise2MeansUntilAGoalAreThoseOfTheFirstStep(t *testing.T) {
	told, failed := 0, 0
	for _, s := range someStates() {
		for goal := range s.Rows {
			means := make([]*big.Rat, len(s.Rows))
			for from := range s.Rows {
				n, d, ok := impl.MeanUntilState(s, from, goal)
				sure := true
				for lost := range s.Rows {
					sure = sure && (!comesTo(s, from, lost, goal) || comesTo(s, lost, goal, -1))
				}
				if !sure {
					mustFail(t, n, d, ok, "mean", s, from, goal)
					failed++
					continue
				}
				told++
				if ok && d > 0 {
					means[from] = big.NewRat(int64(n), int64(d))
					mustTell(t, means[from], n, d, ok, "mean", s, from, goal)
				} else {
					t.Fatal("mean", s, from, goal, n, d, ok)
				}
			}
			for from, mean := range means {
				if mean == nil {
					continue
				}
				want := new(big.Rat)
				if from != goal {
					want.SetInt64(1)
					for to := range s.Rows {
						if s.Rows[from][to] > 0 {
							want.Add(want, new(big.Rat).Mul(part(s, from, to), means[to]))
						}
					}
				}
				if want.Cmp(mean) != 0 {
					t.Fatal("mean", s, from, goal, "is", mean, "and not that of the first step,", want)
				}
			}
		}
	}
	if told == 0 || failed == 0 {
		t.Error("means", told, failed)
	}
}

// They have one solution: 1 at the goal, 0 where it is not reached, elsewhere that of the first step.
func TestChancesToVisitAreThoseOfTheFirstStep(t *testing.T) {
	for _, s := range someStates() {
		for goal := range s.Rows {
			chances := make([]*big.Rat, len(s.Rows))
			for from := range s.Rows {
				n, d, ok := impl.ChanceToVisit(s, from, goal)
				if !ok || d < 1 {
					t.Fatal("visit", s, from, goal, n, d, ok)
				}
				chances[from] = big.NewRat(int64(n), int64(d))
				mustTell(t, chances[from], n, d, ok, "visit", s, from, goal)
				n2, d2, ok2 := impl.ChanceToEnd(s, from, goal)
				if s.Rows[goal][goal] == s.Of {
					mustTell(t, chances[from], n2, d2, ok2, "end", s, from, goal)
				} else {
					mustFail(t, n2, d2, ok2, "end", s, from, goal)
				}
			}
			for from := range s.Rows {
				want := new(big.Rat)
				switch {
				case from == goal:
					want.SetInt64(1)
				case comesTo(s, from, goal, -1):
					for to := range s.Rows {
						want.Add(want, new(big.Rat).Mul(part(s, from, to), chances[to]))
					}
				}
				if want.Cmp(chances[from]) != 0 {
					t.Fatal("visit", s, from, goal, "is", chances[from], "and not", want)
				}
			}
		}
	}
}

func TestClassesOfStates(t *testing.T) {
	for _, s := range someStates() {
		var classes [][]int
		var lasting, ends []int
		for state := range s.Rows {
			var reached, class []int
			for to := range s.Rows {
				if comesTo(s, state, to, -1) {
					reached = append(reached, to)
					if comesTo(s, to, state, -1) {
						class = append(class, to)
					}
				}
			}
			got, ok := impl.ReachedStates(s, state)
			mustList(t, reached, got, ok, "reached", s, state)
			if class[0] == state {
				classes = append(classes, class)
			}
			if len(class) == len(reached) {
				lasting = append(lasting, state)
			}
			if s.Rows[state][state] == s.Of {
				ends = append(ends, state)
			}
		}
		got, ok := impl.StateClasses(s)
		if !ok || !slices.EqualFunc(classes, got, slices.Equal) {
			t.Fatal("classes", s, "are", got, ok, "and not", classes)
		}
		if one, ok := impl.IsOneClass(s); one != (len(classes) == 1) || !ok {
			t.Fatal("one class", s, one, ok)
		}
		list, ok := impl.LastingStates(s)
		mustList(t, lasting, list, ok, "lasting", s)
		list, ok = impl.EndStates(s)
		mustList(t, ends, list, ok, "ends", s)
	}
}

// waysWithin counts ways by making each of them.
func waysWithin(s impl.States, from, to, steps int) int {
	if steps == 0 {
		if from == to {
			return 1
		}
		return 0
	}
	sum := 0
	for next, n := range s.Rows[from] {
		if n > 0 {
			sum += waysWithin(s, next, to, steps-1)
		}
	}
	return sum
}

func TestCountedWays(t *testing.T) {
	full := impl.States{Of: 5}
	for range 5 {
		full.Rows = append(full.Rows, []int{1, 1, 1, 1, 1})
	}
	if n, ok := impl.CountWays(full, 0, 4, 8); n != 78125 || !ok {
		t.Error("ways", n, ok)
	}
	for k, s := range someStates() {
		most := 4
		if k%50 == 0 {
			most = 6
		}
		if len(s.Rows) < 4 && s.Of < 4 {
			most = impl.MaxSteps
		}
		for from := range s.Rows {
			for to := range s.Rows {
				for steps := 0; steps <= most; steps++ {
					want := waysWithin(s, from, to, steps)
					if n, ok := impl.CountWays(s, from, to, steps); n != want || !ok {
						t.Fatal("ways", s, from, to, steps, "are", n, ok, "and not", want)
					}
				}
			}
		}
	}
}

// wayOf is the first way of just so many steps, or nil.
func wayOf(s impl.States, from, to, steps int) []int {
	if steps == 0 {
		if from == to {
			return []int{from}
		}
		return nil
	}
	for next, n := range s.Rows[from] {
		if n > 0 {
			if rest := wayOf(s, next, to, steps-1); rest != nil {
				return append([]int{from}, rest...)
			}
		}
	}
	return nil
}

func TestFirstWays(t *testing.T) {
	for _, s := range someStates() {
		for from := range s.Rows {
			for to := range s.Rows {
				var want []int
				for steps := 0; steps < len(s.Rows) && want == nil; steps++ {
					want = wayOf(s, from, to, steps)
				}
				got, ok := impl.FirstWay(s, from, to)
				if want == nil {
					mustNotList(t, got, ok, "way", s, from, to)
				} else {
					mustList(t, want, got, ok, "way", s, from, to)
				}
			}
		}
	}
}

// By 40 steps all rings of at most 5 states have been gone around, each one alone and with others.
func TestPeriods(t *testing.T) {
	found := map[int]bool{}
	for _, s := range someStates() {
		for state := range s.Rows {
			want := 0
			here := map[int]bool{state: true}
			for long := 1; long <= 40; long++ {
				there := map[int]bool{}
				for from := range here {
					for to, n := range s.Rows[from] {
						if n > 0 {
							there[to] = true
						}
					}
				}
				if here = there; here[state] {
					a, b := want, long
					for b != 0 {
						a, b = b, a%b
					}
					want = a
				}
			}
			found[want] = true
			if n, ok := impl.PeriodOfState(s, state); n != want || ok != (want > 0) {
				t.Fatal("period", s, state, "is", n, ok, "and not", want)
			}
		}
	}
	for n := range 6 {
		if !found[n] {
			t.Error("no state with the period", n)
		}
	}
	// The rings of 2 and of 3 steps meet in 1 alone: only together they have the divisor 1.
	s := mustParseStates(t, "2;0,2,0,0;1,0,1,0;0,0,0,2;0,2,0,0")
	for state := range s.Rows {
		if n, ok := impl.PeriodOfState(s, state); n != 1 || !ok {
			t.Error("period", state, n, ok)
		}
	}
}

// Long shares are those that stay, and add up to 1.
func TestSharesOfStatesStay(t *testing.T) {
	for _, s := range someStates() {
		one := true
		for from := range s.Rows {
			for to := range s.Rows {
				one = one && comesTo(s, from, to, -1)
			}
		}
		shares, d, ok := impl.SharesOfStates(s)
		if !one {
			mustNotList(t, shares, ok || d != 0, "shares", s)
			continue
		}
		if !ok || len(shares) != len(s.Rows) {
			t.Fatal("shares", s, "are", shares, d, ok)
		}
		sum, divisor := 0, new(big.Int)
		for to, n := range shares {
			sum += n
			divisor.GCD(nil, nil, divisor, big.NewInt(int64(n)))
			next := 0
			for from, m := range shares {
				next += m * s.Rows[from][to]
			}
			if n < 0 || next != n*s.Of {
				t.Fatal("shares", s, "are", shares, d, "and do not stay")
			}
		}
		if sum != d || divisor.Int64() != 1 {
			t.Fatal("shares", s, "are", shares, d, "with", divisor, "in common")
		}
	}
}

// orders lists all lists of the numbers 0 up to many, each once.
func orders(many int) [][]int {
	if many == 0 {
		return [][]int{nil}
	}
	var list [][]int
	for _, shorter := range orders(many - 1) {
		for at := 0; at < many; at++ {
			list = append(list, slices.Insert(slices.Clone(shorter), at, many-1))
		}
	}
	return list
}

func TestRenamedStates(t *testing.T) {
	for k, s := range someStates() {
		if k%7 > 0 {
			continue
		}
		for _, names := range orders(len(s.Rows)) {
			got, ok := impl.RenameStates(s, names)
			if !ok || got.Of != s.Of || len(got.Rows) != len(s.Rows) {
				t.Fatal("renamed", s, names, "are", got, ok)
			}
			for i := range s.Rows {
				for j := range s.Rows {
					if len(got.Rows[names[i]]) != len(s.Rows) || got.Rows[names[i]][names[j]] != s.Rows[i][j] {
						t.Fatal("renamed", s, names, "are", got)
					}
				}
			}
		}
	}
	s := mustParseStates(t, "2;1,1,0;1,0,1;0,0,2")
	got, ok := impl.RenameStates(s, []int{1, 2, 0})
	if text, _ := impl.StatesText(got); text != "2;2,0,0;0,1,1;1,1,0" || !ok {
		t.Error("renamed", text, ok)
	}
}

func TestStatesOfChains(t *testing.T) {
	for _, c := range allChains() {
		s, ok := impl.StatesOfChain(c)
		if !ok || s.Of != c.Of || len(s.Rows) != 2 {
			t.Fatal("states of", c, "are", s, ok)
		}
		mustList(t, []int{c.Of - c.Wets, c.Wets}, s.Rows[0], ok, "dry", c)
		mustList(t, []int{c.Dries, c.Of - c.Dries}, s.Rows[1], ok, "wet", c)
	}
}

func TestTextsOfStates(t *testing.T) {
	for _, s := range someStates() {
		if !impl.AreStates(s) {
			t.Fatal("no states", s)
		}
		want := strconv.Itoa(s.Of)
		for _, r := range s.Rows {
			var numbers []string
			for _, n := range r {
				numbers = append(numbers, strconv.Itoa(n))
			}
			want += ";" + strings.Join(numbers, ",")
		}
		if text, ok := impl.StatesText(s); text != want || !ok {
			t.Fatal("text of", s, "is", text, ok)
		}
		back, ok := impl.ParseStates(want)
		if !ok || back.Of != s.Of || !slices.EqualFunc(back.Rows, s.Rows, slices.Equal) {
			t.Fatal("parse", want, back, ok)
		}
	}
	for _, text := range []string{
		"", ";", ";;", ",", "1", "1;", "1;;", "1;1;", ";1;1", "1,1", "1;1,", "1;,1", "1;2", "2;1", "0;0", "-1;-1", "11;11",
		"2;1,1", "2;1,1;1", "2;1,1;1,1;", "2;1,1;1,1,0", "2;1,1,0;1,1,0", "2;3,-1;1,1", "2;-1,3;1,1", "2;1,1;0,1", "2;1,1;2,1",
		"2; 1,1;1,1", " 2;1,1;1,1", "2;1,1;1,1 ", "2;1,1;1,1\n", "2;1,1;1,1\x00", "2;01,1;1,1", "2;1,01;1,1", "02;1,1;1,1",
		"+2;1,1;1,1", "2;+1,1;1,1", "2;1,1;1,+1", "2;-0,2;1,1", "2;1.1;1.1", "2,1,1;1,1", "2:1,1:1,1", "2;1,1;1,x", "x;1,1;1,1",
		"１;1", "1;１", "0x1;1", "1;0x1", "1_0;1_0", "2/1,1;1,1", "99999999999999999999;1", "18446744073709551617;1",
		"1;18446744073709551617", "2;9223372036854775807,9223372036854775807,4;1,1,0;1,1,0",
		"1;1,0,0,0,0,0" + strings.Repeat(";1,0,0,0,0,0", 5), "1" + strings.Repeat(";1", 5000), strings.Repeat(";", 5000), strings.Repeat("1", 5000),
	} {
		if s, ok := impl.ParseStates(text); s.Of != 0 || len(s.Rows) != 0 || ok {
			t.Errorf("%.80q is parsed as %v, %v", text, s, ok)
		}
	}
}

func TestOneState(t *testing.T) {
	for of := 1; of <= impl.MaxOf; of++ {
		s := impl.States{Of: of, Rows: [][]int{{of}}}
		n, d, ok := impl.ChanceOfStep(s, 0, 0)
		mustTell(t, big.NewRat(1, 1), n, d, ok, "step")
		n, d, ok = impl.MeanUntilState(s, 0, 0)
		mustTell(t, new(big.Rat), n, d, ok, "mean")
		n, d, ok = impl.ChanceToEnd(s, 0, 0)
		mustTell(t, big.NewRat(1, 1), n, d, ok, "end")
		list, d, ok := impl.SharesOfStates(s)
		mustList(t, []int{1}, list, ok && d == 1, "shares")
		list, ok = impl.LastingStates(s)
		mustList(t, []int{0}, list, ok, "lasting")
		list, ok = impl.FirstWay(s, 0, 0)
		mustList(t, []int{0}, list, ok, "way")
		if n, ok := impl.PeriodOfState(s, 0); n != 1 || !ok {
			t.Error("period", n, ok)
		}
		if n, ok := impl.CountWays(s, 0, 0, 8); n != 1 || !ok {
			t.Error("ways", n, ok)
		}
		renamed, ok := impl.RenameStates(s, []int{0})
		if text, _ := impl.StatesText(renamed); text != strconv.Itoa(of)+";"+strconv.Itoa(of) || !ok {
			t.Error("renamed", text, ok)
		}
	}
}

// State 0 is never reached, never comes back, and may end in 3 without 1, behind which 2 is not sure.
func TestStatesWithoutAWay(t *testing.T) {
	s := mustParseStates(t, "4;0,2,0,2;0,2,1,1;0,0,4,0;0,0,0,4")
	if n, ok := impl.PeriodOfState(s, 0); n != 0 || ok {
		t.Error("period", n, ok)
	}
	way, ok := impl.FirstWay(s, 1, 0)
	mustNotList(t, way, ok, "way to 0")
	way, ok = impl.FirstWay(s, 0, 0)
	mustList(t, []int{0}, way, ok, "way from 0 to 0")
	if n, ok := impl.CountWays(s, 1, 0, 8); n != 0 || !ok {
		t.Error("ways", n, ok)
	}
	n, d, ok := impl.ChanceToVisit(s, 1, 0)
	mustTell(t, new(big.Rat), n, d, ok, "visit 0 from 1")
	n, d, ok = impl.ChanceToVisit(s, 0, 0)
	mustTell(t, big.NewRat(1, 1), n, d, ok, "visit 0 from 0")
	n, d, ok = impl.ChanceToEnd(s, 0, 2)
	mustTell(t, big.NewRat(1, 4), n, d, ok, "end 2 from 0")
	n, d, ok = impl.ChanceToEnd(s, 0, 1)
	mustFail(t, n, d, ok, "end 1")
	n, d, ok = impl.MeanUntilState(s, 0, 1)
	mustFail(t, n, d, ok, "mean 0 1")
	n, d, ok = impl.MeanUntilState(s, 0, 0)
	mustTell(t, new(big.Rat), n, d, ok, "mean 0 0")
	shares, d, ok := impl.SharesOfStates(s)
	mustNotList(t, shares, ok || d != 0, "shares")
}

// What may come behind a goal does not matter for the mean until it.
func TestMeanUntilAGoalThatIsLeftForEver(t *testing.T) {
	s := mustParseStates(t, "4;3,1,0;0,0,4;0,0,4")
	n, d, ok := impl.MeanUntilState(s, 0, 1)
	mustTell(t, big.NewRat(4, 1), n, d, ok, "mean 0 1")
	n, d, ok = impl.MeanUntilState(s, 2, 1)
	mustFail(t, n, d, ok, "mean 2 1")
	n, d, ok = impl.MeanUntilState(s, 0, 2)
	mustTell(t, big.NewRat(5, 1), n, d, ok, "mean 0 2")
}
