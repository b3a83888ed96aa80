package tests

import (
	"math"
	"math/big"
	"slices"
	"strconv"
	"strings"
	"sync"
	"testing"

	"loop.example/g01337/impl"
)

// The tests of promise 9: solutions fit all clues, and harder puzzles are solved by the same chain.

// hiddenChains are those with one Of, by Wets, then by Dries.
func hiddenChains(of int) []impl.Chain {
	var list []impl.Chain
	for _, c := range allChains() {
		if c.Of == of {
			list = append(list, c)
		}
	}
	return list
}

func allHiddenChains() []impl.Chain {
	var list []impl.Chain
	for of := 1; of <= impl.MaxHidden; of++ {
		list = append(list, hiddenChains(of)...)
	}
	return list
}

// allClues are those of the document's limits.
func allClues() []impl.Clue {
	list := []impl.Clue{{Kind: 0}, {Kind: 0, B: 1}}
	for b := range 101 {
		list = append(list, impl.Clue{Kind: 1, B: b}, impl.Clue{Kind: 2, B: b}, impl.Clue{Kind: 5, B: b})
		for a := range 101 {
			if b > 0 {
				list = append(list, impl.Clue{Kind: 3, A: a, B: b}, impl.Clue{Kind: 4, A: a, B: b})
			}
		}
	}
	return list
}

// known is what clues tell of a chain, without the program: chances as parts of Of times Of, and nothing where there
// is no share or no mean.
type known struct {
	impl.Chain
	dryWetDry, twoBehind, dry, run *big.Rat
}

func knownOf(c impl.Chain) known {
	parts := big.NewRat(int64(c.Of*c.Of), 1)
	k := known{Chain: c, dryWetDry: product(c, "dwd")}
	k.twoBehind = new(big.Rat).Add(product(c, "ddd"), k.dryWetDry)
	k.dryWetDry.Mul(k.dryWetDry, parts)
	k.twoBehind.Mul(k.twoBehind, parts)
	// In the long run as many days become wet as become dry.
	become, back := step(c, 'd', 'w'), step(c, 'w', 'd')
	if become.Sign() > 0 && back.Sign() > 0 {
		k.dry = new(big.Rat).Quo(back, new(big.Rat).Add(become, back))
	}
	if back.Sign() > 0 {
		k.run = new(big.Rat).Inv(back)
	}
	return k
}

// isTold asks for lowest terms, as a big.Rat has them.
func isTold(r *big.Rat, num, den int) bool {
	return r != nil && r.Num().Int64() == int64(num) && r.Denom().Int64() == int64(den)
}

func (k known) fits(c impl.Clue) bool {
	switch c.Kind {
	case 0:
		return k.Wets > k.Dries == (c.B == 1)
	case 1:
		return k.Wets+k.Dries == c.B
	case 2:
		return isTold(k.dryWetDry, c.B, 1)
	case 3:
		return isTold(k.dry, c.A, c.B)
	case 4:
		return isTold(k.run, c.A, c.B)
	}
	return isTold(k.twoBehind, c.B, 1)
}

// knownChains are those with each Of.
var knownChains = sync.OnceValue(func() [][]known {
	list := make([][]known, impl.MaxHidden+1)
	for of := range list {
		for _, c := range hiddenChains(of) {
			list[of] = append(list[of], knownOf(c))
		}
	}
	return list
})

// fitting are all chains with an Of that fit all clues, in order.
func fitting(of int, clues []impl.Clue) []impl.Chain {
	var list []impl.Chain
	for _, k := range knownChains()[of] {
		if !slices.ContainsFunc(clues, func(c impl.Clue) bool { return !k.fits(c) }) {
			list = append(list, k.Chain)
		}
	}
	return list
}

// cluesOf are those that a chain fits: one of each kind, as far as there is a share and a mean.
func cluesOf(k known) []impl.Clue {
	var list []impl.Clue
	for _, c := range allClues() {
		if k.fits(c) {
			list = append(list, c)
		}
	}
	return list
}

// fittingClues are those of each chain.
var fittingClues = sync.OnceValue(func() map[impl.Chain][]impl.Clue {
	clues := map[impl.Chain][]impl.Clue{}
	for _, chains := range knownChains() {
		for _, k := range chains {
			clues[k.Chain] = cluesOf(k)
		}
	}
	return clues
})

// manyPuzzles have some clues of one chain, or nearly so, that are made up by a fixed rule: puzzles without a
// solution, with one and with several.
func manyPuzzles() []impl.Puzzle {
	var list []impl.Puzzle
	for of := 1; of <= impl.MaxHidden; of++ {
		chains := hiddenChains(of)
		z := of
		next := func(below int) int {
			z = (z*1103515245 + 12345) % (1 << 31)
			return z >> 8 % below
		}
		for k := range 400 {
			p := impl.Puzzle{Of: of}
			told := fittingClues()[chains[next(len(chains))]]
			for range k % (impl.MaxClues + 1) {
				from := told
				if k%4 == 0 && next(4) == 0 {
					from = fittingClues()[chains[next(len(chains))]]
				}
				p.Clues = append(p.Clues, from[next(len(from))])
			}
			list = append(list, p)
		}
	}
	return list
}

// less has the clues of a puzzle with the indices whose bits are set.
func less(p impl.Puzzle, kept int) []impl.Clue {
	var clues []impl.Clue
	for k, c := range p.Clues {
		if kept>>k&1 == 1 {
			clues = append(clues, c)
		}
	}
	return clues
}

func samePuzzle(p, q impl.Puzzle) bool { return p.Of == q.Of && slices.Equal(p.Clues, q.Clues) }

func mustBePuzzle(t *testing.T, want, got impl.Puzzle, ok bool, what ...any) {
	t.Helper()
	if !ok || !samePuzzle(want, got) {
		t.Fatal(what, "is", got, ok, "and not", want)
	}
}

func mustBeChains(t *testing.T, want, got []impl.Chain, ok bool, what ...any) {
	t.Helper()
	if !ok || !slices.Equal(want, got) {
		t.Fatal(what, "are", got, ok, "and not", want)
	}
}

func mustParsePuzzle(t *testing.T, text string) impl.Puzzle {
	t.Helper()
	p, ok := impl.ParsePuzzle(text)
	if !ok {
		t.Fatal("no puzzle", text)
	}
	return p
}

func TestExamplesOfChapter9(t *testing.T) {
	p := mustParsePuzzle(t, "4:3.1.3,1.0.3")
	mustBePuzzle(t, impl.Puzzle{Of: 4, Clues: []impl.Clue{{Kind: 3, A: 1, B: 3}, {Kind: 1, A: 0, B: 3}}}, p, true, "4:3.1.3,1.0.3")
	found, ok := impl.Solutions(p)
	mustBeChains(t, []impl.Chain{mustParse(t, "2-1/4")}, found, ok, "solutions")
	if c, ok := impl.FirstSolution(p); !ok || c != mustParse(t, "2-1/4") {
		t.Fatal("first", c, ok)
	}
	solved, ok := impl.IsSolved(p)
	mustSay(t, true, solved, ok, "solved")
	left, ok := impl.LeftByClues(p)
	mustList(t, []int{25, 2, 1}, left, ok, "left")
	none := mustParsePuzzle(t, "3:3.1.3,4.3.2")
	count, ok := impl.CountSolutions(none)
	mustCount(t, 0, count, ok, "count of none")
	fits, ok := impl.DoesFit(none.Clues[1], mustParse(t, "3-2/3"))
	mustSay(t, true, fits, ok, "runs of 3-2/3")
	fits, ok = impl.DoesFit(none.Clues[0], mustParse(t, "3-2/3"))
	mustSay(t, false, fits, ok, "share of 3-2/3")
	wets, dries, ok := impl.SureChain(mustParsePuzzle(t, "2:0.0.1"))
	mustList(t, []int{-1, -1}, []int{wets, dries}, ok, "sure 2:0.0.1")
	wets, dries, ok = impl.SureChain(mustParsePuzzle(t, "1:0.0.1"))
	mustList(t, []int{1, 0}, []int{wets, dries}, ok, "sure 1:0.0.1")
}

func TestPromise9SolutionsFitAllClues(t *testing.T) {
	counts := map[int]int{}
	for _, p := range manyPuzzles() {
		found, ok := impl.Solutions(p)
		mustBeChains(t, fitting(p.Of, p.Clues), found, ok, "solutions", p)
		for _, chain := range hiddenChains(p.Of) {
			fitsAll := true
			for _, c := range p.Clues {
				fits, ok := impl.DoesFit(c, chain)
				fitsAll = fitsAll && fits && ok
			}
			if fitsAll != slices.Contains(found, chain) {
				t.Fatal(chain, "fits all clues of", p, fitsAll, "of which the solutions are", found)
			}
		}
		counts[min(len(found), 2)]++
	}
	if counts[0] < 100 || counts[1] < 100 || counts[2] < 100 {
		t.Error("puzzles without, with one, and with several solutions:", counts)
	}
}

func TestPromise9HarderPuzzlesAreSolvedByTheSameChain(t *testing.T) {
	taken := map[int]int{}
	for _, p := range manyPuzzles() {
		chains := fitting(p.Of, p.Clues)
		if len(chains) != 1 {
			mustNotTell(t, impl.HarderPuzzle, p)
			continue
		}
		harder, ok := impl.HarderPuzzle(p)
		if !ok || harder.Of != p.Of {
			t.Fatal("harder", p, "is", harder, ok)
		}
		mustBeChains(t, chains, fitting(harder.Of, harder.Clues), true, "solutions of the harder puzzle of", p)
		taken[len(p.Clues)-len(harder.Clues)]++
		needless, ok := impl.NeedlessClues(harder)
		mustList(t, nil, needless, ok, "needless", harder)
		again, ok := impl.HarderPuzzle(harder)
		mustBePuzzle(t, harder, again, ok, "harder again", p)
	}
	for many := range impl.MaxClues - 1 {
		if taken[many] == 0 {
			t.Error("no puzzle lost", many, "clues:", taken)
		}
	}
}

// Of all clues by which alone a puzzle is solved still, those are left that miss the first one if some do, then the
// second one, and so on: taking more clues out never solves a puzzle again.
func TestHarderPuzzlesMissTheFirstClues(t *testing.T) {
	for _, p := range manyPuzzles() {
		if len(fitting(p.Of, p.Clues)) != 1 {
			continue
		}
		best, missing := -1, ""
		for kept := range 1 << len(p.Clues) {
			if len(fitting(p.Of, less(p, kept))) != 1 {
				continue
			}
			rank := ""
			for k := range p.Clues {
				rank += strconv.Itoa(kept >> k & 1)
			}
			if best < 0 || rank < missing {
				best, missing = kept, rank
			}
		}
		harder, ok := impl.HarderPuzzle(p)
		mustBePuzzle(t, impl.Puzzle{Of: p.Of, Clues: less(p, best)}, harder, ok, "harder", p)
	}
}

func TestHarderPuzzlesByName(t *testing.T) {
	for _, x := range [][2]string{
		// Each clue is needed.
		{"1:0.0.1", "1:0.0.1"}, {"8:1.0.16", "8:1.0.16"}, {"4:3.1.3,1.0.3", "4:3.1.3,1.0.3"}, {"4:1.0.3,3.1.3", "4:1.0.3,3.1.3"},
		// One of them is, and it is the last one.
		{"1:0.0.1,0.0.1", "1:0.0.1"}, {"8:1.0.16,2.0.64", "8:2.0.64"}, {"8:2.0.64,1.0.16", "8:1.0.16"}, {"8:1.0.0,1.0.0,1.0.0,1.0.0,1.0.0,1.0.0", "8:1.0.0"},
		// By the sum and by the share alone there are wetter ones, too.
		{"4:0.0.1,3.1.3,1.0.3", "4:3.1.3,1.0.3"}, {"4:3.1.3,0.0.1,1.0.3", "4:3.1.3,1.0.3"}, {"4:3.1.3,1.0.3,0.0.1", "4:3.1.3,1.0.3"},
		// What was taken out does not come back: at last the clue of kind 5 is enough.
		{"1:0.0.1,1.0.1,0.0.1,2.0.0,5.0.0,1.0.1", "1:5.0.0"}, {"1:0.0.1,5.0.0,2.0.0", "1:5.0.0"}, {"1:5.0.0,0.0.1,2.0.0", "1:0.0.1"},
	} {
		harder, ok := impl.HarderPuzzle(mustParsePuzzle(t, x[0]))
		mustBePuzzle(t, mustParsePuzzle(t, x[1]), harder, ok, "harder", x[0])
	}
	// Without a solution, and with several.
	for _, text := range []string{"3:3.1.3,4.3.2", "1:0.0.1,1.0.0", "8:2.0.63", "1:", "8:", "2:0.0.1", "1:1.0.1", "4:3.1.3", "8:1.0.15"} {
		mustNotTell(t, impl.HarderPuzzle, mustParsePuzzle(t, text))
	}
}

func TestCluesAreThoseOfTheLimits(t *testing.T) {
	clues := map[impl.Clue]bool{}
	for _, c := range allClues() {
		clues[c] = true
	}
	for kind := -2; kind <= 8; kind++ {
		for a := -2; a <= 102; a++ {
			for b := -2; b <= 102; b++ {
				c := impl.Clue{Kind: kind, A: a, B: b}
				if is := impl.IsClue(4, c); is != clues[c] {
					t.Fatal(c, "is a clue:", is)
				}
			}
		}
	}
}

// Of may be any number: clues are the same for all chains.
func TestCluesOfEachOf(t *testing.T) {
	for _, of := range []int{math.MinInt, -1, 0, 1, 2, 7, 8, 9, 10, 11, math.MaxInt} {
		for _, c := range allClues() {
			if !impl.IsClue(of, c) {
				t.Fatal("no clue of", of, c)
			}
		}
		for _, c := range badClues {
			mustNotTell(t, impl.IsClue, of, c)
		}
	}
}

func TestCluesThatFit(t *testing.T) {
	clues := allClues()
	for _, chains := range knownChains() {
		for _, k := range chains {
			many := 0
			for _, c := range clues {
				fits, ok := impl.DoesFit(c, k.Chain)
				mustSay(t, k.fits(c), fits, ok, "fit", c, k.Chain)
				if fits {
					many++
				}
			}
			want := 6
			if k.Dries == 0 {
				want--
			}
			if k.Dries == 0 || k.Wets == 0 {
				want--
			}
			if many != want {
				t.Fatal(k.Chain, "fits", many, "clues")
			}
		}
	}
}

// clueTexts reads clues with blanks between them, without the program.
func clueTexts(t *testing.T, texts string) []impl.Clue {
	t.Helper()
	var list []impl.Clue
	for _, text := range strings.Fields(texts) {
		var n [3]int
		for i, number := range strings.SplitN(text, ".", 3) {
			var err error
			if n[i], err = strconv.Atoi(number); err != nil {
				t.Fatal(err)
			}
		}
		list = append(list, impl.Clue{Kind: n[0], A: n[1], B: n[2]})
	}
	return list
}

func TestCluesThatFitByName(t *testing.T) {
	for _, x := range []struct {
		chain, fit, unfit string
	}{
		{"2-1/4", "0.0.1 1.0.3 2.0.2 3.1.3 4.4.1 5.0.6",
			"0.0.0 1.0.2 1.0.4 2.0.1 2.0.16 3.2.3 3.2.6 3.1.2 4.2.1 4.8.2 4.1.4 5.0.5 5.0.4"},
		// As wet as dry is not wetter. Fractions are in lowest terms.
		{"4-4/8", "0.0.0 1.0.8 2.0.16 3.1.2 4.2.1 5.0.32", "0.0.1 3.4.8 3.2.4 4.8.4 4.4.2"},
		{"8-8/8", "0.0.0 1.0.16 2.0.64 3.1.2 4.1.1 5.0.64", "1.0.100 2.0.100 3.50.100 4.100.100 5.0.100"},
		{"1-1/1", "0.0.0 1.0.2 2.0.1 3.1.2 4.1.1 5.0.1", "0.0.1 1.0.1 2.0.0 3.1.1 4.2.2 5.0.0"},
		// Without dry days behind wet ones no run ends, and without wet ones behind dry ones the chain does not mix.
		{"5-0/8", "0.0.1 1.0.5 2.0.0 5.0.9", "3.0.1 3.0.5 3.1.1 4.0.1 4.8.1 4.1.1 4.100.1"},
		{"0-5/8", "0.0.0 1.0.5 2.0.0 4.8.5 5.0.64", "3.0.1 3.5.5 3.1.1 4.5.8"},
		{"0-0/8", "0.0.0 1.0.0 2.0.0 5.0.64", "0.0.1 3.0.1 3.1.1 4.0.1 4.1.1 4.8.1"},
		{"0-0/1", "0.0.0 1.0.0 2.0.0 5.0.1", "3.0.1 3.1.1 4.0.1 4.1.1 5.0.0"},
		{"0-1/1", "0.0.0 1.0.1 2.0.0 4.1.1 5.0.1", "3.1.1"},
		{"1-0/1", "0.0.1 1.0.1 2.0.0 5.0.0", "3.0.1 4.1.1 5.0.1"},
		{"8-1/8", "0.0.1 1.0.9 2.0.8 3.1.9 4.8.1 5.0.8", "3.8.9"},
		{"1-8/8", "0.0.0 1.0.9 2.0.8 3.8.9 4.1.1 5.0.57", "3.1.9 4.8.8"},
	} {
		chain := mustParse(t, x.chain)
		for _, c := range clueTexts(t, x.fit) {
			fits, ok := impl.DoesFit(c, chain)
			mustSay(t, true, fits, ok, "fit", c, x.chain)
		}
		for _, c := range clueTexts(t, x.unfit) {
			fits, ok := impl.DoesFit(c, chain)
			mustSay(t, false, fits, ok, "fit", c, x.chain)
		}
	}
}

func TestWhatIsToldOfSolutions(t *testing.T) {
	for _, p := range manyPuzzles() {
		chains := fitting(p.Of, p.Clues)
		count, ok := impl.CountSolutions(p)
		mustCount(t, len(chains), count, ok, "count", p)
		solved, ok := impl.IsSolved(p)
		mustSay(t, len(chains) == 1, solved, ok, "solved", p)
		if len(chains) == 0 {
			mustNotTell(t, impl.FirstSolution, p)
			mustNotTell(t, impl.SureChain, p)
			continue
		}
		if first, ok := impl.FirstSolution(p); !ok || first != chains[0] {
			t.Fatal("first", p, "is", first, ok)
		}
		// What all have is what the ones with the least and with the most of it have.
		sure := []int{-1, -1}
		byWets := func(a, b impl.Chain) int { return a.Wets - b.Wets }
		byDries := func(a, b impl.Chain) int { return a.Dries - b.Dries }
		if most := slices.MaxFunc(chains, byWets).Wets; most == slices.MinFunc(chains, byWets).Wets {
			sure[0] = most
		}
		if most := slices.MaxFunc(chains, byDries).Dries; most == slices.MinFunc(chains, byDries).Dries {
			sure[1] = most
		}
		wets, dries, ok := impl.SureChain(p)
		mustList(t, sure, []int{wets, dries}, ok, "sure", p)
	}
}

func TestSolutionsByName(t *testing.T) {
	for _, x := range []struct {
		puzzle, chains string
		wets, dries    int
	}{
		{"1:", "0-0/1 0-1/1 1-0/1 1-1/1", -1, -1},
		{"2:", "0-0/2 0-1/2 0-2/2 1-0/2 1-1/2 1-2/2 2-0/2 2-1/2 2-2/2", -1, -1},
		{"2:0.0.1", "1-0/2 2-0/2 2-1/2", -1, -1},
		{"2:0.0.0,0.0.0", "0-0/2 0-1/2 0-2/2 1-1/2 1-2/2 2-2/2", -1, -1},
		{"8:1.0.16", "8-8/8", 8, 8},
		{"8:1.0.15", "7-8/8 8-7/8", -1, -1},
		{"8:1.0.1", "0-1/8 1-0/8", -1, -1},
		{"8:1.0.0", "0-0/8", 0, 0},
		{"3:5.0.0", "3-0/3", 3, 0},
		{"3:5.0.9", "0-0/3 0-1/3 0-2/3 0-3/3 3-3/3", -1, -1},
		{"3:5.0.9,0.0.0,4.3.2", "0-2/3", 0, 2},
		// Wets alone are sure.
		{"3:5.0.9,2.0.0", "0-0/3 0-1/3 0-2/3 0-3/3", 0, -1},
		// Dries alone are sure.
		{"3:4.3.2", "0-2/3 1-2/3 2-2/3 3-2/3", -1, 2},
		{"3:4.3.2,0.0.1", "3-2/3", 3, 2},
		{"3:4.1.1", "0-3/3 1-3/3 2-3/3 3-3/3", -1, 3},
		{"4:3.1.3", "2-1/4 4-2/4", -1, -1},
		{"4:3.1.2", "1-1/4 2-2/4 3-3/4 4-4/4", -1, -1},
		{"6:2.0.12", "2-6/6 3-4/6 4-3/6 6-2/6", -1, -1},
		{"6:2.0.12,0.0.1", "4-3/6 6-2/6", -1, -1},
		{"6:2.0.12,0.0.1,1.0.7,3.3.7,4.2.1,5.0.16", "4-3/6", 4, 3},
	} {
		p := mustParsePuzzle(t, x.puzzle)
		var chains []impl.Chain
		for _, text := range strings.Fields(x.chains) {
			chains = append(chains, mustParse(t, text))
		}
		found, ok := impl.Solutions(p)
		mustBeChains(t, chains, found, ok, "solutions", x.puzzle)
		wets, dries, ok := impl.SureChain(p)
		mustList(t, []int{x.wets, x.dries}, []int{wets, dries}, ok, "sure", x.puzzle)
	}
}

// Each of these fits no chain, though all are clues.
func TestPuzzlesWithoutASolution(t *testing.T) {
	for _, text := range []string{
		"3:3.1.3,4.3.2", "1:0.0.1,0.0.0", "8:1.0.17", "8:1.0.100", "8:2.0.63", "8:2.0.100", "8:3.0.1", "8:3.1.1", "8:3.2.4", "8:3.100.100", "8:3.0.100",
		"8:4.0.1", "8:4.4.2", "8:4.100.1", "8:4.1.100", "8:4.8.8", "8:4.1.2", "8:5.0.65", "8:5.0.100", "1:1.0.3", "1:3.2.3", "1:4.2.1", "1:5.0.2", "7:1.0.16",
		"2:0.0.1,0.0.1,0.0.1,0.0.1,0.0.1,0.0.0",
	} {
		p := mustParsePuzzle(t, text)
		found, ok := impl.Solutions(p)
		mustBeChains(t, nil, found, ok, "solutions", text)
		count, ok := impl.CountSolutions(p)
		mustCount(t, 0, count, ok, "count", text)
		solved, ok := impl.IsSolved(p)
		mustSay(t, false, solved, ok, "solved", text)
		for _, f := range []any{impl.FirstSolution, impl.SureChain, impl.HarderPuzzle} {
			mustNotTell(t, f, p)
		}
		left, ok := impl.LeftByClues(p)
		if !ok || len(left) != len(p.Clues)+1 || left[len(left)-1] != 0 {
			t.Fatal("left by", text, "are", left, ok)
		}
	}
}

func TestWhatIsToldOfClues(t *testing.T) {
	for _, p := range manyPuzzles() {
		all := len(fitting(p.Of, p.Clues))
		var needless, left, alone []int
		for k := range len(p.Clues) + 1 {
			left = append(left, len(fitting(p.Of, p.Clues[:k])))
		}
		for k, c := range p.Clues {
			if len(fitting(p.Of, less(p, 1<<len(p.Clues)-1-1<<k))) == all {
				needless = append(needless, k)
			}
			alone = append(alone, len(fitting(p.Of, []impl.Clue{c})))
		}
		got, ok := impl.NeedlessClues(p)
		mustList(t, needless, got, ok, "needless", p)
		got, ok = impl.LeftByClues(p)
		mustList(t, left, got, ok, "left", p)
		if len(alone) == 0 {
			mustNotTell(t, impl.BestClue, p)
			continue
		}
		best, ok := impl.BestClue(p)
		mustCount(t, slices.Index(alone, slices.Min(alone)), best, ok, "best", p)
	}
}

func TestCluesByName(t *testing.T) {
	for _, x := range []struct {
		puzzle         string
		needless, left []int
		best           int
	}{
		{"1:0.0.1", nil, []int{4, 1}, 0},
		{"1:0.0.1,0.0.1", []int{0, 1}, []int{4, 1, 1}, 0},
		{"4:3.1.3,1.0.3", nil, []int{25, 2, 1}, 0},
		{"4:1.0.3,3.1.3", nil, []int{25, 4, 1}, 1},
		{"4:0.0.1,1.0.3,3.1.3", []int{0}, []int{25, 10, 2, 1}, 2},
		// By the product of 2 there are two, as there are by the share: the first one of them is told.
		{"4:0.0.1,2.0.2,3.1.3", []int{0, 2}, []int{25, 10, 1, 1}, 1},
		{"4:0.0.1,3.1.3,2.0.2", []int{0, 1}, []int{25, 10, 2, 1}, 1},
		{"8:1.0.16,2.0.64,1.0.16", []int{0, 1, 2}, []int{81, 1, 1, 1}, 0},
		// Without a solution a clue is needless if there is none without it either.
		{"3:3.1.3,4.3.2", nil, []int{16, 1, 0}, 0},
		{"8:1.0.17,1.0.1", []int{1}, []int{81, 0, 0}, 0},
		{"8:1.0.1,1.0.17", []int{0}, []int{81, 2, 0}, 1},
		{"8:1.0.17,1.0.17", []int{0, 1}, []int{81, 0, 0}, 0},
		{"8:0.0.0,0.0.0,0.0.0,0.0.0,0.0.0,1.0.16", []int{0, 1, 2, 3, 4}, []int{81, 45, 45, 45, 45, 45, 1}, 5},
	} {
		p := mustParsePuzzle(t, x.puzzle)
		needless, ok := impl.NeedlessClues(p)
		mustList(t, x.needless, needless, ok, "needless", x.puzzle)
		left, ok := impl.LeftByClues(p)
		mustList(t, x.left, left, ok, "left", x.puzzle)
		best, ok := impl.BestClue(p)
		mustCount(t, x.best, best, ok, "best", x.puzzle)
	}
}

func TestPuzzlesOfNoClue(t *testing.T) {
	for of := 1; of <= impl.MaxHidden; of++ {
		for _, p := range []impl.Puzzle{{Of: of}, {Of: of, Clues: []impl.Clue{}}, {Of: of, Clues: []impl.Clue{{Kind: 99}}[:0]}} {
			if !impl.IsPuzzle(p) {
				t.Fatal("no puzzle", p)
			}
			found, ok := impl.Solutions(p)
			mustBeChains(t, hiddenChains(of), found, ok, "solutions", p)
			count, ok := impl.CountSolutions(p)
			mustCount(t, (of+1)*(of+1), count, ok, "count", p)
			if first, ok := impl.FirstSolution(p); !ok || first != (impl.Chain{Of: of}) {
				t.Fatal("first", p, first, ok)
			}
			wets, dries, ok := impl.SureChain(p)
			mustList(t, []int{-1, -1}, []int{wets, dries}, ok, "sure", p)
			solved, ok := impl.IsSolved(p)
			mustSay(t, false, solved, ok, "solved", p)
			needless, ok := impl.NeedlessClues(p)
			mustList(t, nil, needless, ok, "needless", p)
			left, ok := impl.LeftByClues(p)
			mustList(t, []int{(of + 1) * (of + 1)}, left, ok, "left", p)
			mustNotTell(t, impl.BestClue, p)
			mustNotTell(t, impl.HarderPuzzle, p)
			mustNotTell(t, impl.DropClue, p, 0)
			mustNotTell(t, impl.DropClue, p, -1)
			text, ok := impl.PuzzleText(p)
			mustText(t, strconv.Itoa(of)+":", text, ok, "text", p)
			mustBePuzzle(t, p, mustParsePuzzle(t, text), true, "read", text)
			c := impl.Clue{Kind: 1, B: 1}
			more, ok := impl.AddClue(p, c)
			mustBePuzzle(t, impl.Puzzle{Of: of, Clues: []impl.Clue{c}}, more, ok, "add", p)
			none, ok := impl.DropClue(more, 0)
			mustBePuzzle(t, p, none, ok, "drop", more)
		}
	}
}

func TestDroppedAndAddedClues(t *testing.T) {
	for _, p := range manyPuzzles() {
		for k, c := range p.Clues {
			fewer, ok := impl.DropClue(p, k)
			mustBePuzzle(t, impl.Puzzle{Of: p.Of, Clues: less(p, 1<<len(p.Clues)-1-1<<k)}, fewer, ok, "drop", k, p)
			more, ok := impl.AddClue(fewer, c)
			want := impl.Puzzle{Of: p.Of, Clues: append(slices.Clone(fewer.Clues), c)}
			mustBePuzzle(t, want, more, ok, "add", c, fewer)
		}
		for _, k := range []int{math.MinInt, -1, len(p.Clues), len(p.Clues) + 1, impl.MaxClues, math.MaxInt} {
			mustNotTell(t, impl.DropClue, p, k)
		}
		c := impl.Clue{Kind: 4, A: 100, B: 100}
		if len(p.Clues) == impl.MaxClues {
			mustNotTell(t, impl.AddClue, p, c)
			continue
		}
		more, ok := impl.AddClue(p, c)
		mustBePuzzle(t, impl.Puzzle{Of: p.Of, Clues: append(slices.Clone(p.Clues), c)}, more, ok, "add", c, p)
	}
}

// Two puzzles may be made of one whose clues have room behind them: neither comes into the other, nor into the first one.
func TestPuzzlesThatAreMadeOfOne(t *testing.T) {
	clues := []impl.Clue{{Kind: 3, A: 1, B: 3}, {Kind: 1, B: 3}, {Kind: 88}, {Kind: 88}}
	p := impl.Puzzle{Of: 4, Clues: clues[:2]}
	a, _ := impl.AddClue(p, impl.Clue{Kind: 0, B: 1})
	b, _ := impl.AddClue(p, impl.Clue{Kind: 2, B: 2})
	first, _ := impl.DropClue(p, 0)
	last, _ := impl.DropClue(p, 1)
	harder, _ := impl.HarderPuzzle(p)
	first.Clues = append(first.Clues, impl.Clue{Kind: 5, B: 6})
	last.Clues = append(last.Clues, impl.Clue{Kind: 5, B: 7})
	harder.Clues = append(harder.Clues, impl.Clue{Kind: 5, B: 8})
	for _, x := range []struct {
		puzzle impl.Puzzle
		want   string
	}{
		{p, "4:3.1.3,1.0.3"}, {a, "4:3.1.3,1.0.3,0.0.1"}, {b, "4:3.1.3,1.0.3,2.0.2"}, {first, "4:1.0.3,5.0.6"}, {last, "4:3.1.3,5.0.7"}, {harder, "4:3.1.3,1.0.3,5.0.8"},
	} {
		text, ok := impl.PuzzleText(x.puzzle)
		mustText(t, x.want, text, ok, "text")
	}
	if clues[2].Kind != 88 || clues[3].Kind != 88 {
		t.Error("behind the clues there are", clues[2:])
	}
}

// clueBySeed is told of the number of a clue, without the program: of the one that the chain fits by its kind.
func clueBySeed(z int, k known) impl.Clue {
	kind := z % 6
	if kind == 3 && (k.Wets == 0 || k.Dries == 0) {
		kind = 0
	}
	if kind == 4 && k.Dries == 0 {
		kind = 1
	}
	for _, c := range fittingClues()[k.Chain] {
		if c.Kind == kind {
			return c
		}
	}
	return impl.Clue{Kind: -1}
}

// numbersOfSeed are those of the clues, each taken from the sum of the powers that a seed has then come to.
func numbersOfSeed(seed int) []int {
	var list []int
	for k := 1; k <= impl.MaxClues; k++ {
		power := new(big.Int).Exp(big.NewInt(239), big.NewInt(int64(k)), nil)
		// 239 to the power of k, less 1, is divided by 238.
		sum := new(big.Int).Sub(power, big.NewInt(1))
		sum.Div(sum, big.NewInt(238)).Mul(sum, big.NewInt(1777))
		sum.Add(sum, power.Mul(power, big.NewInt(int64(seed))))
		list = append(list, int(sum.Mod(sum, big.NewInt(10007)).Int64()))
	}
	return list
}

func TestMadePuzzles(t *testing.T) {
	for i, c := range allHiddenChains() {
		k := knownOf(c)
		for n := range 10000 {
			seed := n
			if n > 3 && n < 9998 && (n+i)%61 != 0 {
				continue
			}
			want := impl.Puzzle{Of: c.Of}
			for many, z := range append(numbersOfSeed(seed), 0) {
				made, ok := impl.MakePuzzle(c, many, seed)
				mustBePuzzle(t, want, made, ok, "made", c, many, seed)
				if many < impl.MaxClues {
					want.Clues = append(want.Clues, clueBySeed(z, k))
				}
			}
			if found, ok := impl.Solutions(want); !ok || !slices.Contains(found, c) {
				t.Fatal(c, "is none of the solutions", found, ok, "of", want)
			}
		}
	}
}

// Each seed makes its own numbers, of which the kinds are told by a chain that has all of them.
func TestMadePuzzlesOfAllSeeds(t *testing.T) {
	c := impl.Chain{Wets: 5, Dries: 3, Of: 8}
	clues := clueTexts(t, "0.0.1 1.0.8 2.0.15 3.3.8 4.8.3 5.0.24")
	for seed := range 10000 {
		want := impl.Puzzle{Of: 8}
		for _, z := range numbersOfSeed(seed) {
			want.Clues = append(want.Clues, clues[z%6])
		}
		made, ok := impl.MakePuzzle(c, impl.MaxClues, seed)
		mustBePuzzle(t, want, made, ok, "made", seed)
	}
}

func TestMadePuzzlesByName(t *testing.T) {
	for _, x := range []struct {
		chain string
		seed  int
		want  string
	}{
		// The numbers are 1777, 6186, 9202, 9522, 5946 and 1877.
		{"2-1/4", 0, "4:1.0.3,0.0.1,4.4.1,0.0.1,0.0.1,5.0.6"},
		{"2-0/4", 0, "4:1.0.2,0.0.1,1.0.2,0.0.1,0.0.1,5.0.4"},
		{"0-2/4", 0, "4:1.0.2,0.0.0,4.2.1,0.0.0,0.0.0,5.0.16"},
		{"0-0/1", 0, "1:1.0.0,0.0.0,1.0.0,0.0.0,0.0.0,5.0.1"},
		{"8-8/8", 0, "8:1.0.16,0.0.0,4.1.1,0.0.0,0.0.0,5.0.64"},
		// They are 9872, 9540, 241, 9341, 2715 and 207.
		{"2-1/4", 9999, "4:2.0.2,0.0.1,1.0.3,5.0.6,3.1.3,3.1.3"},
		{"2-0/4", 9999, "4:2.0.0,0.0.1,1.0.2,5.0.4,0.0.1,0.0.1"},
		{"0-2/4", 9999, "4:2.0.0,0.0.0,1.0.2,5.0.16,0.0.0,0.0.0"},
		{"0-0/1", 9999, "1:2.0.0,0.0.0,1.0.0,5.0.1,0.0.0,0.0.0"},
		{"6-2/8", 9999, "8:2.0.12,0.0.1,1.0.8,5.0.16,3.1.4,3.1.4"},
		// They are 9633, 2454, 7877, 3064, 3562 and 2500.
		{"6-4/7", 9998, "7:3.2.5,0.0.1,5.0.25,4.7.4,4.7.4,4.7.4"},
		{"6-0/7", 9998, "7:0.0.1,0.0.1,5.0.1,1.0.6,1.0.6,1.0.6"},
	} {
		p := mustParsePuzzle(t, x.want)
		for many := range impl.MaxClues + 1 {
			made, ok := impl.MakePuzzle(mustParse(t, x.chain), many, x.seed)
			mustBePuzzle(t, impl.Puzzle{Of: p.Of, Clues: p.Clues[:many]}, made, ok, "made", x.chain, many, x.seed)
		}
	}
}

func TestTextsOfPuzzles(t *testing.T) {
	for _, p := range manyPuzzles() {
		want := strconv.Itoa(p.Of)
		mark := ":"
		for _, c := range p.Clues {
			for i, n := range []int{c.Kind, c.A, c.B} {
				if i > 0 {
					mark = "."
				}
				want += mark + strconv.Itoa(n)
			}
			mark = ","
		}
		if len(p.Clues) == 0 {
			want += mark
		}
		if !impl.IsPuzzle(p) {
			t.Fatal("no puzzle", p)
		}
		text, ok := impl.PuzzleText(p)
		mustText(t, want, text, ok, "text", p)
		mustBePuzzle(t, p, mustParsePuzzle(t, want), true, "read", want)
	}
	for _, c := range allClues() {
		text := "8:" + strconv.Itoa(c.Kind) + "." + strconv.Itoa(c.A) + "." + strconv.Itoa(c.B)
		p := impl.Puzzle{Of: 8, Clues: []impl.Clue{c}}
		mustBePuzzle(t, p, mustParsePuzzle(t, text), true, "read", text)
		written, ok := impl.PuzzleText(p)
		mustText(t, text, written, ok, "text", p)
	}
	for _, text := range badPuzzleTexts {
		mustNotTell(t, impl.ParsePuzzle, text)
	}
}
