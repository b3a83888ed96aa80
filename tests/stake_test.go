package tests

import (
	"math/big"
	"slices"
	"strconv"
	"strings"
	"testing"
	"testing/synctest"

	"loop.example/g01337/impl"
)

// The tests of promise 8: chances of the goal and of ruin add up to 1, and no stakes are better than the best ones.

func allStakes() []impl.Stakes {
	var list []impl.Stakes
	for goal := 1; goal <= impl.MaxPurse; goal++ {
		for purse := range goal + 1 {
			list = append(list, impl.Stakes{Purse: purse, Goal: goal})
		}
	}
	return list
}

// stakesLeft are those of a play as the document tells them, without the program: none if the game is over.
func stakesLeft(s impl.Stakes) []int {
	var list []int
	for stake := 1; stake <= s.Purse && s.Purse+stake <= s.Goal; stake++ {
		list = append(list, stake)
	}
	return list
}

func moved(s impl.Stakes, stake int, toss byte) impl.Stakes {
	if toss == 'h' {
		return impl.Stakes{Purse: s.Purse + stake, Goal: s.Goal}
	}
	return impl.Stakes{Purse: s.Purse - stake, Goal: s.Goal}
}

func boldly(left []int) int  { return left[len(left)-1] }
func timidly(left []int) int { return left[0] }

// pathBy is the purse at first and behind each toss.
func pathBy(s impl.Stakes, tosses string, how func([]int) int) []int {
	path := []int{s.Purse}
	for i := range len(tosses) {
		if left := stakesLeft(s); len(left) > 0 {
			s = moved(s, how(left), tosses[i])
		}
		path = append(path, s.Purse)
	}
	return path
}

// wonByHeads counts the texts of so many tosses behind which one is at the goal, those with 0 heads, with 1, and so on.
func wonByHeads(s impl.Stakes, tosses int, how func([]int) int) []int64 {
	counts := make([]int64, tosses+1)
	for _, text := range textsOfTosses(tosses) {
		if path := pathBy(s, text, how); path[tosses] == s.Goal {
			counts[strings.Count(text, "h")]++
		}
	}
	return counts
}

// chanceByHeads is that of texts that are so many with 0 heads, with 1, and so on.
func chanceByHeads(c impl.Coin, counts []int64) *big.Rat {
	sum := new(big.Rat)
	for heads, count := range counts {
		chance := chanceOf(c, strings.Repeat("h", heads)+strings.Repeat("t", len(counts)-1-heads))
		sum.Add(sum, chance.Mul(chance, big.NewRat(count, 1)))
	}
	return sum
}

// tossedBetween is the mean of what is told behind heads and behind tails.
func tossedBetween(c impl.Coin, heads, tails *big.Rat) *big.Rat {
	a := new(big.Rat).Mul(chanceOf(c, "h"), heads)
	return a.Add(a, new(big.Rat).Mul(chanceOf(c, "t"), tails))
}

// asTold makes numbers of what f tells of all purses up to a goal.
func asTold(t *testing.T, goal int, f func(impl.Stakes) (int, int, bool)) []*big.Rat {
	t.Helper()
	var list []*big.Rat
	for purse := range goal + 1 {
		num, den, ok := f(impl.Stakes{Purse: purse, Goal: goal})
		if !ok || den < 1 {
			t.Fatal(purse, "of", goal, "is", num, den, ok)
		}
		list = append(list, big.NewRat(int64(num), int64(den)))
	}
	return list
}

func mustParseStakes(t *testing.T, text string) impl.Stakes {
	t.Helper()
	s, ok := impl.ParseStakes(text)
	if !ok {
		t.Fatal("no stakes", text)
	}
	return s
}

func TestExamplesOfChapter8(t *testing.T) {
	fair := impl.Coin{Heads: 1, Of: 2}
	num, den, ok := impl.ChanceOfGoal(fair, mustParseStakes(t, "3of8"))
	mustTell(t, big.NewRat(3, 8), num, den, ok, "goal")
	num, den, ok = impl.MeanPlays(fair, mustParseStakes(t, "3of8"))
	mustTell(t, big.NewRat(15, 1), num, den, ok, "plays")
	third := impl.Coin{Heads: 1, Of: 3}
	num, den, ok = impl.ChanceOfGoal(third, mustParseStakes(t, "1of2"))
	mustTell(t, big.NewRat(1, 3), num, den, ok, "goal")
	num, den, ok = impl.ChanceOfGoal(third, mustParseStakes(t, "1of3"))
	mustTell(t, big.NewRat(1, 7), num, den, ok, "goal")
	path, ok := impl.BoldPath(mustParseStakes(t, "3of8"), "htt")
	mustList(t, []int{3, 6, 4, 0}, path, ok, "path")
	num, den, ok = impl.BoldWithin(fair, mustParseStakes(t, "2of8"), 2)
	mustTell(t, big.NewRat(1, 4), num, den, ok, "bold")
	num, den, ok = impl.MostWithin(fair, mustParseStakes(t, "2of8"), 2)
	mustTell(t, big.NewRat(1, 4), num, den, ok, "most")
	best, ok := impl.BestStakes(fair, mustParseStakes(t, "2of8"), 2)
	mustList(t, []int{2}, best, ok, "best")
	n, ok := impl.CountRuins(mustParseStakes(t, "1of3"), 3)
	mustCount(t, 1, n, ok, "ruins")
	n, ok = impl.NeededPurse(fair, 8, 1, 2)
	mustCount(t, 4, n, ok, "needed")
}

// The chances are the only numbers that are 0 in ruin, 1 at the goal, and between those of the purses beside otherwise.
func TestPromise8ChancesOfTheGoalAndOfRuinAddUpTo1(t *testing.T) {
	one := big.NewRat(1, 1)
	for _, c := range allCoins() {
		for goal := 1; goal <= impl.MaxPurse; goal++ {
			goals := asTold(t, goal, func(s impl.Stakes) (int, int, bool) { return impl.ChanceOfGoal(c, s) })
			ruins := asTold(t, goal, func(s impl.Stakes) (int, int, bool) { return impl.ChanceOfRuin(c, s) })
			for purse := range goal + 1 {
				reached, ruined := new(big.Rat), new(big.Rat)
				switch purse {
				case 0:
					ruined = one
				case goal:
					reached = one
				default:
					reached = tossedBetween(c, goals[purse+1], goals[purse-1])
					ruined = tossedBetween(c, ruins[purse+1], ruins[purse-1])
				}
				s := impl.Stakes{Purse: purse, Goal: goal}
				num, den, ok := impl.ChanceOfGoal(c, s)
				mustTell(t, reached, num, den, ok, "goal", c, s)
				num, den, ok = impl.ChanceOfRuin(c, s)
				mustTell(t, ruined, num, den, ok, "ruin", c, s)
				if new(big.Rat).Add(goals[purse], ruins[purse]).Cmp(one) != 0 {
					t.Fatal(c, s, "add up to", goals[purse], "and", ruins[purse])
				}
			}
		}
	}
}

// By a fair coin the chance is the part of the goal that one has; by others its differences are powers.
func TestChancesByPowers(t *testing.T) {
	for _, c := range allCoins() {
		for _, s := range allStakes() {
			times := big.NewRat(int64(c.Of-c.Heads), int64(c.Heads))
			sum, upTo := new(big.Rat), new(big.Rat)
			for purse, power := 0, big.NewRat(1, 1); purse < s.Goal; purse++ {
				if purse < s.Purse {
					upTo.Add(upTo, power)
				}
				sum.Add(sum, power)
				power = new(big.Rat).Mul(power, times)
			}
			num, den, ok := impl.ChanceOfGoal(c, s)
			mustTell(t, upTo.Quo(upTo, sum), num, den, ok, "goal", c, s)
			if 2*c.Heads == c.Of {
				mustTell(t, big.NewRat(int64(s.Purse), int64(s.Goal)), num, den, ok, "fair", s)
			}
		}
	}
}

// The means are the only numbers that are 0 when the game is over, and otherwise 1 more than the mean of those beside.
func TestMeanPlaysAreOneMoreThanThoseBehindAPlay(t *testing.T) {
	for _, c := range allCoins() {
		for goal := 1; goal <= impl.MaxPurse; goal++ {
			means := asTold(t, goal, func(s impl.Stakes) (int, int, bool) { return impl.MeanPlays(c, s) })
			for purse := range goal + 1 {
				want := new(big.Rat)
				if purse > 0 && purse < goal {
					want = tossedBetween(c, means[purse+1], means[purse-1])
					want.Add(want, big.NewRat(1, 1))
				}
				s := impl.Stakes{Purse: purse, Goal: goal}
				num, den, ok := impl.MeanPlays(c, s)
				mustTell(t, want, num, den, ok, "plays", c, s)
			}
		}
	}
}

// What one wins the other one loses: by the turned coin and the turned stakes the same comes out.
func TestGamesOfTheOtherPlayer(t *testing.T) {
	for _, c := range allCoins() {
		other := impl.Coin{Heads: c.Of - c.Heads, Of: c.Of}
		for _, s := range allStakes() {
			turned, ok := impl.TurnStakes(s)
			if !ok || turned != (impl.Stakes{Purse: s.Goal - s.Purse, Goal: s.Goal}) {
				t.Fatal(s, "turned is", turned, ok)
			}
			num, den, ok := impl.ChanceOfGoal(other, turned)
			lost, of, fine := impl.ChanceOfRuin(c, s)
			if !ok || !fine || num != lost || den != of {
				t.Fatal(c, s, "is ruined with", lost, of, "and the other one at the goal with", num, den)
			}
			num, den, ok = impl.MeanPlays(other, turned)
			mean, per, fine := impl.MeanPlays(c, s)
			if !ok || !fine || num != mean || den != per {
				t.Fatal(c, s, "plays", mean, per, "and the other one", num, den)
			}
		}
	}
}

func TestBoldStakes(t *testing.T) {
	for _, s := range allStakes() {
		if s.Purse == 0 || s.Purse == s.Goal {
			mustNotTell(t, impl.BoldStake, s)
			continue
		}
		want := s.Purse
		if s.Goal-s.Purse < s.Purse {
			want = s.Goal - s.Purse
		}
		stake, ok := impl.BoldStake(s)
		mustCount(t, want, stake, ok, "bold", s)
	}
}

func TestBoldPaths(t *testing.T) {
	texts := append(shortTexts(8), strings.Repeat("h", impl.MaxTosses), strings.Repeat("t", impl.MaxTosses), strings.Repeat("ht", impl.MaxTosses/2),
		strings.Repeat("th", impl.MaxTosses/2), strings.Repeat("tth", 13), strings.Repeat("hht", 13)+"h", strings.Repeat("hthhttth", impl.MaxTosses/8))
	for _, s := range allStakes() {
		for _, tosses := range texts {
			path, ok := impl.BoldPath(s, tosses)
			mustList(t, pathBy(s, tosses, boldly), path, ok, "path", s, tosses)
		}
	}
	for _, x := range []struct {
		stakes, tosses string
		want           []int
	}{
		{"3of8", "", []int{3}},
		{"3of8", "htt", []int{3, 6, 4, 0}},
		{"3of8", "hhtt", []int{3, 6, 8, 8, 8}},
		{"0of8", "hh", []int{0, 0, 0}},
		{"8of8", "tt", []int{8, 8, 8}},
		{"0of1", "h", []int{0, 0}},
		{"1of1", "t", []int{1, 1}},
		{"16of16", "", []int{16}},
		{"5of16", "hthth", []int{5, 10, 4, 8, 0, 0}},
		// By thirds the game may go on for ever.
		{"5of15", strings.Repeat("ht", 3), []int{5, 10, 5, 10, 5, 10, 5}},
	} {
		path, ok := impl.BoldPath(mustParseStakes(t, x.stakes), x.tosses)
		mustList(t, x.want, path, ok, "path", x.stakes, x.tosses)
	}
}

// Within some plays is at the end of just so many, or before: one stays at the goal.
func TestBoldAndTimidWithin(t *testing.T) {
	for _, s := range allStakes() {
		for plays := range impl.MaxPlays + 1 {
			bold, timid := wonByHeads(s, plays, boldly), wonByHeads(s, plays, timidly)
			for _, c := range allCoins() {
				num, den, ok := impl.BoldWithin(c, s, plays)
				mustTell(t, chanceByHeads(c, bold), num, den, ok, "bold", c, s, plays)
				num, den, ok = impl.TimidWithin(c, s, plays)
				mustTell(t, chanceByHeads(c, timid), num, den, ok, "timid", c, s, plays)
			}
		}
	}
}

// wonTexts are, each one as the bits of a number, all sets of those texts of tosses behind which one is at the goal, of all ways
// to stake: each text of tosses may be answered by stakes of its own.
type wonTexts map[uint64]bool

type game struct {
	impl.Stakes
	plays int
}

// waysFrom are the ways of a game that begin with a stake, which is 0 when it is over.
func waysFrom(known map[game]wonTexts, g game, stake int) wonTexts {
	sets := wonTexts{}
	won, lost := game{moved(g.Stakes, stake, 'h'), g.plays - 1}, game{moved(g.Stakes, stake, 't'), g.plays - 1}
	for a := range allWays(known, won) {
		for b := range allWays(known, lost) {
			sets[a<<(1<<(g.plays-1))|b] = true
		}
	}
	return sets
}

func allWays(known map[game]wonTexts, g game) wonTexts {
	if sets, ok := known[g]; ok {
		return sets
	}
	sets := wonTexts{}
	left := stakesLeft(g.Stakes)
	switch {
	case g.plays == 0 && g.Purse == g.Goal:
		sets[1] = true
	case g.plays == 0:
		sets[0] = true
	case len(left) == 0:
		sets = waysFrom(known, g, 0)
	}
	for _, stake := range left {
		if g.plays > 0 {
			for set := range waysFrom(known, g, stake) {
				sets[set] = true
			}
		}
	}
	known[g] = sets
	return sets
}

// mostOfWays is the numerator of the greatest chance of some ways: the denominator is Of to the power of the plays. The
// numerators of the texts are those of the bits.
func mostOfWays(sets wonTexts, texts []int64) int64 {
	most := int64(0)
	for set := range sets {
		sum := int64(0)
		for bit, part := range texts {
			if set>>bit&1 == 1 {
				sum += part
			}
		}
		most = max(most, sum)
	}
	return most
}

// numeratorsOfTexts are those of all texts of tosses from the last one on, as the first sign is the highest bit, and heads are in the higher ones.
func numeratorsOfTexts(c impl.Coin, tosses int) ([]int64, int64) {
	parts, of := []int64{1}, int64(1)
	for range tosses {
		var longer []int64
		for _, times := range []int{c.Of - c.Heads, c.Heads} {
			for _, part := range parts {
				longer = append(longer, part*int64(times))
			}
		}
		parts, of = longer, of*int64(c.Of)
	}
	return parts, of
}

// All ways to stake are tried, those that ask what came before, too, in all games of three plays, and in the small ones of four.
func TestPromise8NoStakesAreBetterThanTheBestOnes(t *testing.T) {
	known := map[game]wonTexts{}
	for _, s := range allStakes() {
		for plays := range 5 {
			if plays == 4 && s.Goal > 9 {
				continue
			}
			g := game{s, plays}
			var first []wonTexts
			for _, stake := range stakesLeft(s) {
				if plays > 0 {
					first = append(first, waysFrom(known, g, stake))
				}
			}
			for _, c := range allCoins() {
				texts, of := numeratorsOfTexts(c, plays)
				most := mostOfWays(allWays(known, g), texts)
				num, den, ok := impl.MostWithin(c, s, plays)
				mustTell(t, big.NewRat(most, of), num, den, ok, "most", c, s, plays)
				var best []int
				for k, sets := range first {
					if mostOfWays(sets, texts) == most {
						best = append(best, k+1)
					}
				}
				if best == nil {
					mustNotTell(t, impl.BestStakes, c, s, plays)
					continue
				}
				got, ok := impl.BestStakes(c, s, plays)
				mustList(t, best, got, ok, "best", c, s, plays)
			}
		}
	}
}

// mostBy are the greatest chances of all purses within so many plays, led on from those within one play less.
func mostBy(c impl.Coin, goal int, less []*big.Rat) ([]*big.Rat, [][]int) {
	var most []*big.Rat
	var best [][]int
	for purse := range goal + 1 {
		s := impl.Stakes{Purse: purse, Goal: goal}
		chance, stakes := new(big.Rat).Set(less[purse]), []int(nil)
		for k, stake := range stakesLeft(s) {
			by := tossedBetween(c, less[purse+stake], less[purse-stake])
			if order := by.Cmp(chance); k == 0 || order > 0 {
				chance, stakes = by, []int{stake}
			} else if order == 0 {
				stakes = append(stakes, stake)
			}
		}
		most, best = append(most, chance), append(best, stakes)
	}
	return most, best
}

func TestBestStakesOfAllPlays(t *testing.T) {
	for _, c := range allCoins() {
		for goal := 1; goal <= impl.MaxPurse; goal++ {
			less := make([]*big.Rat, goal+1)
			for purse := range less {
				less[purse] = big.NewRat(int64(purse/goal), 1)
			}
			for plays := 1; plays <= impl.MaxPlays; plays++ {
				most, best := mostBy(c, goal, less)
				for purse := range goal + 1 {
					s := impl.Stakes{Purse: purse, Goal: goal}
					num, den, ok := impl.MostWithin(c, s, plays)
					mustTell(t, most[purse], num, den, ok, "most", c, s, plays)
					if purse == 0 || purse == goal {
						mustNotTell(t, impl.BestStakes, c, s, plays)
						continue
					}
					stakes, ok := impl.BestStakes(c, s, plays)
					mustList(t, best[purse], stakes, ok, "best", c, s, plays)
				}
				less = most
			}
		}
	}
}

// Bold play is as good as the best if heads do not come more often than tails, and no chance is greater than the part of the goal that one has then.
func TestBoldPlayIsBestIfHeadsAreNotLikelier(t *testing.T) {
	better := 0
	for _, c := range allCoins() {
		for _, s := range allStakes() {
			for plays := range impl.MaxPlays + 1 {
				most, of, ok := impl.MostWithin(c, s, plays)
				bold, den, fine := impl.BoldWithin(c, s, plays)
				if !ok || !fine || bold*of > most*den {
					t.Fatal(c, s, plays, "are at most", most, of, "and boldly", bold, den)
				}
				if 2*c.Heads <= c.Of && (bold != most || den != of || most*s.Goal > s.Purse*of) {
					t.Fatal(c, s, plays, "are boldly", bold, den, "and at most", most, of)
				}
				if timid, den, ok := impl.TimidWithin(c, s, plays); !ok || timid*of > most*den {
					t.Fatal(c, s, plays, "are at most", most, of, "and timidly", timid, den)
				}
				if bold != most || den != of {
					better++
				}
			}
		}
	}
	if better == 0 {
		t.Error("no play is better than bold play")
	}
}

func TestBestStakesByName(t *testing.T) {
	fair, good := impl.Coin{Heads: 1, Of: 2}, impl.Coin{Heads: 9, Of: 10}
	for _, x := range []struct {
		c      impl.Coin
		stakes string
		plays  int
		num    int64
		den    int64
		best   []int
	}{
		{fair, "1of2", 1, 1, 2, []int{1}},
		{fair, "4of8", 1, 1, 2, []int{4}},
		// Two plays are enough by a step to 4 or to 6, or by all at once.
		{fair, "4of8", 2, 1, 2, []int{4}},
		{fair, "6of8", 2, 3, 4, []int{2}},
		{fair, "4of6", 2, 1, 2, []int{1, 2}},
		// None of these is at the goal so soon, so that none is better than another one.
		{fair, "3of16", 1, 0, 1, []int{1, 2, 3}},
		{good, "8of16", 0, 0, 1, nil},
		{fair, "8of16", 1, 1, 2, []int{8}},
		{good, "0of16", 6, 0, 1, nil},
		{good, "16of16", 0, 1, 1, nil},
		{good, "16of16", 6, 1, 1, nil},
		{good, "0of1", 6, 0, 1, nil},
		{good, "1of1", 0, 1, 1, nil},
	} {
		s := mustParseStakes(t, x.stakes)
		num, den, ok := impl.MostWithin(x.c, s, x.plays)
		mustTell(t, big.NewRat(x.num, x.den), num, den, ok, "most", x)
		if x.best == nil {
			mustNotTell(t, impl.BestStakes, x.c, s, x.plays)
			continue
		}
		best, ok := impl.BestStakes(x.c, s, x.plays)
		mustList(t, x.best, best, ok, "best", x)
	}
}

// playedBy plays the stakes of a list as the document tells it, without the program.
func playedBy(s impl.Stakes, list []int, tosses string) ([]int, bool) {
	path := []int{s.Purse}
	for len(list) > 0 && tosses != "" && s.Purse != 0 && s.Purse != s.Goal {
		if !slices.Contains(stakesLeft(s), list[0]) {
			return nil, false
		}
		s = moved(s, list[0], tosses[0])
		path = append(path, s.Purse)
		list, tosses = list[1:], tosses[1:]
	}
	return path, true
}

func TestPlaysByLists(t *testing.T) {
	listsOf := [][]int{{}}
	for first := 0; len(listsOf) < 1+8+64+512; first++ {
		for _, stake := range []int{-1, 0, 1, 2, 3, 4, 5, 6} {
			listsOf = append(listsOf, append(slices.Clone(listsOf[first]), stake))
		}
	}
	texts := shortTexts(4)
	for _, s := range allStakes() {
		if s.Goal > 6 {
			continue
		}
		for _, list := range listsOf {
			for _, tosses := range texts {
				want, fine := playedBy(s, list, tosses)
				path, ok := impl.PlayStakes(s, list, tosses)
				if !fine {
					mustNotList(t, path, ok, "path", s, list, tosses)
					continue
				}
				mustList(t, want, path, ok, "path", s, list, tosses)
			}
		}
	}
}

func TestPlaysByListsByName(t *testing.T) {
	many := slices.Repeat([]int{1}, impl.MaxStakes)
	back := []int{8}
	for range impl.MaxStakes / 2 {
		back = append(back, 9, 8)
	}
	for _, x := range []struct {
		stakes string
		list   []int
		tosses string
		want   []int
	}{
		{"3of8", []int{2, 1, 4}, "hth", []int{3, 5, 4, 8}},
		{"3of8", nil, "hth", []int{3}},
		{"3of8", []int{2, 1, 4}, "", []int{3}},
		{"3of8", nil, "", []int{3}},
		{"3of8", []int{2, 1}, "htttt", []int{3, 5, 4}},
		{"3of8", []int{2, 1, 4, 1}, "ht", []int{3, 5, 4}},
		// A stake that is none is none on the way alone.
		{"3of8", []int{0}, "", []int{3}},
		{"3of8", []int{3, 2, -7, 99}, "hh", []int{3, 6, 8}},
		{"3of8", []int{3, 2, -7, 99}, "hhtt", []int{3, 6, 8}},
		{"3of8", []int{3, 0, 99}, "tht", []int{3, 0}},
		{"0of8", []int{0, 99}, "hh", []int{0}},
		{"8of8", []int{-1, 99}, "hh", []int{8}},
		{"1of1", []int{1}, "t", []int{1}},
		{"8of16", []int{8}, "h", []int{8, 16}},
		{"8of16", []int{8}, "t", []int{8, 0}},
		{"8of16", many, strings.Repeat("ht", impl.MaxTosses/2), back},
		{"8of16", many, strings.Repeat("ht", 10), back[:21]},
		{"8of16", many[:11], strings.Repeat("ht", 10), back[:12]},
	} {
		path, ok := impl.PlayStakes(mustParseStakes(t, x.stakes), x.list, x.tosses)
		mustList(t, x.want, path, ok, "path", x)
	}
	for _, x := range []struct {
		stakes string
		list   []int
		tosses string
	}{
		{"3of8", []int{0}, "h"},
		{"3of8", []int{-1}, "t"},
		{"3of8", []int{4}, "h"},
		{"6of8", []int{3}, "h"},
		{"6of8", []int{3}, "t"},
		{"3of8", []int{2, 4}, "hh"},
		{"3of8", []int{1, 1, 2}, "tth"},
		{"3of8", []int{3, 2, 0}, "hth"},
	} {
		path, ok := impl.PlayStakes(mustParseStakes(t, x.stakes), x.list, x.tosses)
		mustNotList(t, path, ok, "path", x)
	}
}

// Bold play is play by a list of bold stakes, which ends when the game is over.
func TestBoldPlayByLists(t *testing.T) {
	for _, s := range allStakes() {
		for _, tosses := range textsOfTosses(7) {
			path, ok := impl.BoldPath(s, tosses)
			var list []int
			for _, purse := range path[:7] {
				if stake, fine := impl.BoldStake(impl.Stakes{Purse: purse, Goal: s.Goal}); fine {
					list = append(list, stake)
				}
			}
			played, fine := impl.PlayStakes(s, list, tosses)
			mustList(t, path[:len(list)+1], played, ok && fine, "path", s, tosses)
		}
	}
}

func TestMeansOfAPurse(t *testing.T) {
	for _, c := range allCoins() {
		for _, purse := range []int{0, 1, 2, 3, 7, 10, 500, 999, 1000} {
			for stake := range purse + 1 {
				want := tossedBetween(c, big.NewRat(int64(purse+stake), 1), big.NewRat(int64(purse-stake), 1))
				num, den, ok := impl.MeanPurse(c, purse, stake)
				mustTell(t, want, num, den, ok, "mean", c, purse, stake)
			}
		}
	}
}

func TestFairPlays(t *testing.T) {
	amounts := []int{0, 111, 125, 250, 300, 375, 499, 500, 600, 700, 750, 875, 888, 900, 999, 1000}
	for n := range 40 {
		amounts = append(amounts, n)
	}
	for _, c := range allCoins() {
		fair := 0
		for _, win := range amounts {
			for _, lose := range amounts {
				mean := tossedBetween(c, big.NewRat(int64(win), 1), big.NewRat(int64(-lose), 1))
				got, ok := impl.IsFairPlay(c, win, lose)
				mustSay(t, mean.Sign() == 0, got, ok, "fair", c, win, lose)
				if got {
					fair++
				}
			}
		}
		if fair < 2 {
			t.Error("no fair play but that for nothing by", c)
		}
	}
}

// countsByLists counts the texts of just so many tosses with the last one of which one is ruined, those with which one is at the goal, and those behind which the game goes on.
func countsByLists(s impl.Stakes, tosses int) (int, int, int) {
	ruins, goals, inPlay := 0, 0, 0
	for _, text := range textsOfTosses(tosses) {
		path := pathBy(s, text, timidly)
		over := slices.IndexFunc(path, func(purse int) bool { return purse == 0 || purse == s.Goal })
		switch {
		case over < 0:
			inPlay++
		case over == tosses && path[over] == 0:
			ruins++
		case over == tosses:
			goals++
		}
	}
	return ruins, goals, inPlay
}

func mustCountTimid(t *testing.T, s impl.Stakes, plays, ruins, goals, inPlay int) {
	t.Helper()
	n, ok := impl.CountRuins(s, plays)
	mustCount(t, ruins, n, ok, "ruins", s, plays)
	n, ok = impl.CountGoals(s, plays)
	mustCount(t, goals, n, ok, "goals", s, plays)
	n, ok = impl.CountInPlay(s, plays)
	mustCount(t, inPlay, n, ok, "in play", s, plays)
}

func TestCountsOfTimidPlay(t *testing.T) {
	for _, s := range allStakes() {
		for plays := range 10 {
			ruins, goals, inPlay := countsByLists(s, plays)
			mustCountTimid(t, s, plays, ruins, goals, inPlay)
		}
	}
}

// Behind the first toss as many lists are left as there are of one toss less by the purses beside.
func TestCountsOfTimidPlayUpToTheLimit(t *testing.T) {
	type counts struct{ ruins, goals, inPlay int }
	for goal := 1; goal <= impl.MaxPurse; goal++ {
		less := make([]counts, goal+1)
		for purse := 1; purse < goal; purse++ {
			less[purse].inPlay = 1
		}
		less[0].ruins, less[goal].goals = 1, 1
		for plays := 0; plays <= 30; plays++ {
			for purse, n := range less {
				mustCountTimid(t, impl.Stakes{Purse: purse, Goal: goal}, plays, n.ruins, n.goals, n.inPlay)
			}
			next := make([]counts, goal+1)
			for purse := 1; purse < goal; purse++ {
				a, b := less[purse-1], less[purse+1]
				next[purse] = counts{a.ruins + b.ruins, a.goals + b.goals, a.inPlay + b.inPlay}
			}
			less = next
		}
	}
}

// The game is over with some toss, or goes on: each list of 30 tosses is one of these.
func TestCountsOfTimidPlayAreAllLists(t *testing.T) {
	for _, s := range allStakes() {
		all := 0
		for plays := range 31 {
			ruins, ok := impl.CountRuins(s, plays)
			goals, fine := impl.CountGoals(s, plays)
			if !ok || !fine {
				t.Fatal("no counts", s, plays)
			}
			all += (ruins + goals) << (30 - plays)
		}
		inPlay, ok := impl.CountInPlay(s, 30)
		mustCount(t, 1<<30, all+inPlay, ok, "lists", s)
	}
}

func TestCountsOfTimidPlayByName(t *testing.T) {
	for _, x := range []struct {
		stakes                       string
		plays, ruins, goals, playing int
	}{
		{"0of8", 0, 1, 0, 0},
		{"0of8", 1, 0, 0, 0},
		{"0of8", 30, 0, 0, 0},
		{"8of8", 0, 0, 1, 0},
		{"8of8", 1, 0, 0, 0},
		{"0of1", 0, 1, 0, 0},
		{"1of1", 0, 0, 1, 0},
		{"1of1", 30, 0, 0, 0},
		{"3of8", 0, 0, 0, 1},
		{"1of2", 1, 1, 1, 0},
		{"1of2", 2, 0, 0, 0},
		{"1of3", 3, 1, 0, 1},
		{"2of3", 3, 0, 1, 1},
		{"2of4", 30, 1 << 14, 1 << 14, 1 << 15},
		{"1of3", 30, 0, 1, 1},
	} {
		mustCountTimid(t, mustParseStakes(t, x.stakes), x.plays, x.ruins, x.goals, x.playing)
	}
}

func TestNeededPurses(t *testing.T) {
	parts := [][2]int{{0, 1}, {0, 1000}, {1, 1000}, {1, 999}, {1, 3}, {1, 2}, {500, 1000}, {2, 3}, {9, 10}, {998, 999}, {999, 1000}, {1, 1}, {1000, 1000}, {1000, 999}, {2, 1}, {1000, 1}}
	for _, c := range allCoins() {
		for goal := 1; goal <= impl.MaxPurse; goal++ {
			goals := asTold(t, goal, func(s impl.Stakes) (int, int, bool) { return impl.ChanceOfGoal(c, s) })
			asked := slices.Clone(parts)
			for _, chance := range goals {
				// What is met exactly is enough, and one that is just greater is not.
				if num, den := int(chance.Num().Int64()), int(chance.Denom().Int64()); den <= 1000 {
					asked = append(asked, [2]int{num, den}, [2]int{num * (1000 / den), den * (1000 / den)})
					if num < 1000 {
						asked = append(asked, [2]int{num + 1, den})
					}
				}
			}
			for _, ask := range asked {
				least := big.NewRat(int64(ask[0]), int64(ask[1]))
				want := slices.IndexFunc(goals, func(chance *big.Rat) bool { return chance.Cmp(least) >= 0 })
				if want < 0 {
					mustNotTell(t, impl.NeededPurse, c, goal, ask[0], ask[1])
					continue
				}
				purse, ok := impl.NeededPurse(c, goal, ask[0], ask[1])
				mustCount(t, want, purse, ok, "needed", c, goal, ask)
			}
		}
	}
}

func TestTextsOfStakes(t *testing.T) {
	for _, s := range allStakes() {
		if !impl.AreStakes(s) {
			t.Fatal("no stakes", s)
		}
		want := strconv.Itoa(s.Purse) + "of" + strconv.Itoa(s.Goal)
		text, ok := impl.StakesText(s)
		mustText(t, want, text, ok, "text", s)
		if read := mustParseStakes(t, want); read != s {
			t.Fatal(want, "is", read)
		}
	}
	for purse := -2; purse <= impl.MaxPurse+2; purse++ {
		for goal := -2; goal <= impl.MaxPurse+2; goal++ {
			s := impl.Stakes{Purse: purse, Goal: goal}
			if !slices.Contains(allStakes(), s) {
				mustNotTell(t, impl.AreStakes, s)
				mustNotTell(t, impl.StakesText, s)
				mustNotTell(t, impl.ParseStakes, strconv.Itoa(purse)+"of"+strconv.Itoa(goal))
			}
		}
	}
}

// A bubble is left only when all that was started in it has ended: no play goes on behind the call that chooses.
func TestNoPlayGoesOnBehindACall(t *testing.T) {
	synctest.Test(t, func(t *testing.T) {
		for _, c := range []impl.Coin{{Heads: 1, Of: 2}, {Heads: 1, Of: 10}, {Heads: 9, Of: 10}} {
			for _, s := range allStakes() {
				for plays := -1; plays <= impl.MaxPlays+1; plays++ {
					impl.BestStakes(c, s, plays)
					impl.MostWithin(c, s, plays)
				}
			}
		}
	})
}
