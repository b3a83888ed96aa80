package tests

import (
	"math/big"
	"slices"
	"strings"
	"sync"
	"testing"

	"loop.example/g01337/impl"
)

// The tests of promise 4: chances to come first add up to 1, and best answers have the greatest chance.

func raceCoins() []impl.Coin {
	return slices.DeleteFunc(allCoins(), func(c impl.Coin) bool { return c.Of > 4 })
}

func racedPatterns() []string {
	var list []string
	for long := 1; long <= 5; long++ {
		list = append(list, textsOfTosses(long)...)
	}
	return list
}

// rivalsOf are the other patterns of as many signs, in order.
func rivalsOf(a string) []string {
	return slices.DeleteFunc(textsOfTosses(len(a)), func(p string) bool { return p == a })
}

type race struct {
	coin impl.Coin
	a    string
	b    string
}

type ending struct {
	chance *big.Rat
	mean   *big.Rat
}

// solvedRaces are all races, solved once by the equations of the first toss.
var solvedRaces = sync.OnceValue(func() map[race]ending {
	solved := map[race]ending{}
	for _, c := range raceCoins() {
		for _, a := range racedPatterns() {
			for _, b := range rivalsOf(a) {
				if a < b {
					ends := solveRace(c, a, b)
					solved[race{c, a, b}] = ending{ends[0], ends[2]}
					solved[race{c, b, a}] = ending{ends[1], ends[2]}
				}
			}
		}
	}
	return solved
})

// solveRace tells the chances of a and of b to come first, each solved by itself, and the mean number of tosses.
// Where the race stands is told by the longest end of the tosses that begins a or b.
func solveRace(c impl.Coin, a, b string) []*big.Rat {
	var places []string
	for long := range len(a) {
		for _, p := range []string{a[:long], b[:long]} {
			if !slices.Contains(places, p) {
				places = append(places, p)
			}
		}
	}
	many := len(places)
	rows := make([][]*big.Rat, many)
	for i, place := range places {
		rows[i] = make([]*big.Rat, many+3)
		for k := range rows[i] {
			rows[i][k] = new(big.Rat)
		}
		rows[i][i].SetInt64(1)
		rows[i][many+2].SetInt64(1)
		for _, toss := range []string{"h", "t"} {
			at, chance := place+toss, chanceOf(c, toss)
			for !strings.HasPrefix(a, at) && !strings.HasPrefix(b, at) {
				at = at[1:]
			}
			switch at {
			case a:
				rows[i][many].Add(rows[i][many], chance)
			case b:
				rows[i][many+1].Add(rows[i][many+1], chance)
			default:
				k := slices.Index(places, at)
				rows[i][k].Sub(rows[i][k], chance)
			}
		}
	}
	return solveFirst(rows)
}

// solveFirst solves as many equations as there are rows, with some right sides, for the first unknown.
func solveFirst(rows [][]*big.Rat) []*big.Rat {
	for k := len(rows) - 1; k >= 0; k-- {
		for i := k; rows[k][k].Sign() == 0; i-- {
			rows[k], rows[i] = rows[i], rows[k]
		}
		for i := range k {
			if rows[i][k].Sign() == 0 {
				continue
			}
			times := new(big.Rat).Quo(rows[i][k], rows[k][k])
			for j := range rows[i] {
				if rows[k][j].Sign() != 0 {
					rows[i][j].Sub(rows[i][j], new(big.Rat).Mul(times, rows[k][j]))
				}
			}
		}
	}
	var first []*big.Rat
	for _, right := range rows[0][len(rows):] {
		first = append(first, right.Quo(right, rows[0][0]))
	}
	return first
}

// answerOf is the first one of the rivals with the greatest chance, without the program.
func answerOf(c impl.Coin, a string) (string, *big.Rat) {
	best, most := "", new(big.Rat)
	for _, p := range rivalsOf(a) {
		if chance := solvedRaces()[race{c, p, a}].chance; chance.Cmp(most) > 0 {
			best, most = p, chance
		}
	}
	return best, most
}

func TestExamplesOfChapter4(t *testing.T) {
	n, d, ok := impl.ChanceFirst(fair, "thh", "hhh")
	mustTell(t, big.NewRat(7, 8), n, d, ok, "first")
	for _, x := range []struct {
		a, b string
		want int64
	}{{"thh", "thh", 8}, {"hhh", "thh", 0}, {"thh", "hhh", 6}, {"hhh", "hhh", 14}} {
		n, d, ok := impl.LeadingNumber(fair, x.a, x.b)
		mustTell(t, big.NewRat(x.want, 1), n, d, ok, "leading number", x.a, x.b)
	}
	n, d, ok = impl.MeanRace(fair, "thh", "hhh")
	mustTell(t, big.NewRat(7, 1), n, d, ok, "mean race")
	best, n, d, ok := impl.BestAnswer(fair, "hhh")
	if best != "thh" {
		t.Error("best answer", best)
	}
	mustTell(t, big.NewRat(7, 8), n, d, ok, "best answer")
	list, ok := impl.AnswersFrom(fair, "hhh")
	mustTexts(t, []string{"thh", "tth", "htt", "hht", "thh"}, list, ok, "answers")
	count, ok := impl.CountWonAt("thh", "hhh", 3)
	mustCount(t, 1, count, ok, "won at")
}

func TestPromise4ChancesToComeFirstAddUpToOne(t *testing.T) {
	for _, c := range raceCoins() {
		for _, a := range racedPatterns() {
			for _, b := range rivalsOf(a) {
				n, d, ok := impl.ChanceFirst(c, a, b)
				m, e, fine := impl.ChanceFirst(c, b, a)
				if !ok || !fine || n < 1 || m < 1 || d < 1 || e < 1 {
					t.Fatal("first", c, a, b, "is", n, d, ok, "and", m, e, fine)
				}
				if sum := new(big.Rat).Add(big.NewRat(int64(n), int64(d)), big.NewRat(int64(m), int64(e))); sum.Cmp(big.NewRat(1, 1)) != 0 {
					t.Fatal("first", c, a, b, "is", n, d, "and", m, e, "which are", sum)
				}
			}
		}
	}
}

func TestPromise4BestAnswersHaveTheGreatestChance(t *testing.T) {
	for _, c := range raceCoins() {
		for _, a := range racedPatterns()[2:] {
			best, n, d, ok := impl.BestAnswer(c, a)
			if !ok || d < 1 {
				t.Fatal("best answer", c, a, best, n, d, ok)
			}
			most := big.NewRat(int64(n), int64(d))
			for _, p := range rivalsOf(a) {
				m, e, ok := impl.ChanceFirst(c, p, a)
				if !ok || e < 1 {
					t.Fatal("first", c, p, a, m, e, ok)
				}
				order := big.NewRat(int64(m), int64(e)).Cmp(most)
				if order > 0 || order == 0 && p < best || order != 0 && p == best {
					t.Fatal("best answer", c, a, best, n, d, "and not", p, m, e)
				}
			}
			want, chance := answerOf(c, a)
			mustTell(t, chance, n, d, ok && best == want, "best answer", c, a, best, want)
		}
	}
}

func TestRacesAreThoseOfTheFirstToss(t *testing.T) {
	half := big.NewRat(1, 2)
	for _, c := range raceCoins() {
		for _, a := range racedPatterns() {
			for _, b := range rivalsOf(a) {
				want := solvedRaces()[race{c, a, b}]
				n, d, ok := impl.ChanceFirst(c, a, b)
				mustTell(t, want.chance, n, d, ok, "first", c, a, b)
				n, d, ok = impl.MeanRace(c, a, b)
				mustTell(t, want.mean, n, d, ok, "mean race", c, a, b)
				if beats, ok := impl.DoesBeat(c, a, b); !ok || beats != (want.chance.Cmp(half) > 0) {
					t.Fatal("beats", c, a, b, beats, ok)
				}
			}
		}
	}
}

func TestLeadingNumbers(t *testing.T) {
	for _, c := range raceCoins() {
		for _, a := range racedPatterns() {
			for _, b := range textsOfTosses(len(a)) {
				want := new(big.Rat)
				for signs := 1; signs <= len(a); signs++ {
					if a[len(a)-signs:] == b[:signs] {
						want.Add(want, new(big.Rat).Inv(chanceOf(c, b[:signs])))
					}
				}
				n, d, ok := impl.LeadingNumber(c, a, b)
				mustTell(t, want, n, d, ok, "leading number", c, a, b)
			}
			n, d, ok := impl.LeadingNumber(c, a, a)
			wait, wd, fine := impl.MeanWait(c, a)
			mustTell(t, big.NewRat(int64(wait), int64(wd)), n, d, ok && fine, "leading number and wait", c, a)
		}
	}
}

func TestRivalsThatBeatAndThatAreEven(t *testing.T) {
	half := big.NewRat(1, 2)
	most, fewest := 0, 32
	for _, c := range raceCoins() {
		for _, a := range racedPatterns() {
			var beat, even []string
			for _, p := range rivalsOf(a) {
				switch solvedRaces()[race{c, p, a}].chance.Cmp(half) {
				case 1:
					beat = append(beat, p)
				case 0:
					even = append(even, p)
				}
			}
			got, ok := impl.BeatenBy(c, a)
			mustTexts(t, beat, got, ok, "beaten by", c, a)
			got, ok = impl.EvenRaces(c, a)
			mustTexts(t, even, got, ok, "even races", c, a)
			most, fewest = max(most, len(even)), min(fewest, len(even))
		}
	}
	if most < 2 || fewest > 0 {
		t.Error("even races are", fewest, "to", most)
	}
	list, ok := impl.EvenRaces(fair, "hhh")
	mustTexts(t, []string{"hht", "ttt"}, list, ok, "even races")
	list, ok = impl.BeatenBy(fair, "hht")
	mustTexts(t, []string{"thh"}, list, ok, "beaten by")
}

func TestAnswersGoOnUpToTheFirstOneThatIsThere(t *testing.T) {
	toItself := 0
	for _, c := range raceCoins() {
		for _, a := range racedPatterns()[2:] {
			var want []string
			for at := a; ; {
				at, _ = answerOf(c, at)
				there := at == a || slices.Contains(want, at)
				want = append(want, at)
				if there {
					break
				}
			}
			got, ok := impl.AnswersFrom(c, a)
			mustTexts(t, want, got, ok, "answers", c, a)
			if got[len(got)-1] == a {
				toItself++
			}
		}
	}
	if toItself == 0 {
		t.Error("no answers come back to the pattern itself")
	}
	list, ok := impl.AnswersFrom(fair, "thh")
	mustTexts(t, []string{"tth", "htt", "hht", "thh"}, list, ok, "answers")
}

func TestHardestToBeatHasTheLeastBestAnswer(t *testing.T) {
	for _, c := range raceCoins() {
		for long := 2; long <= impl.MaxRaced; long++ {
			hardest, least := "", big.NewRat(2, 1)
			for _, p := range textsOfTosses(long) {
				if _, chance := answerOf(c, p); chance.Cmp(least) < 0 {
					hardest, least = p, chance
				}
			}
			got, n, d, ok := impl.HardestToBeat(c, long)
			mustTell(t, least, n, d, ok && got == hardest, "hardest", c, long, got, hardest)
		}
	}
	got, n, d, ok := impl.HardestToBeat(fair, 3)
	mustTell(t, big.NewRat(2, 3), n, d, ok && got == "hth", "hardest", got)
}

// winnerByCutting looks for the least end of all patterns.
func winnerByCutting(list []string, tosses string) (int, int, bool) {
	winner, last := 0, len(tosses)+1
	for k, p := range list {
		if i := strings.Index(tosses, p); i >= 0 && i+len(p) < last {
			winner, last = k, i+len(p)
		}
	}
	return winner, last, last <= len(tosses)
}

func mustWin(t *testing.T, list []string, tosses string) {
	t.Helper()
	winner, last, wins := winnerByCutting(list, tosses)
	if !wins {
		winner, last = 0, 0
	}
	if k, made, ok := impl.WinnerOfMany(list, tosses); k != winner || made != last || ok != wins {
		t.Fatal("winner of", list, "by", tosses, "is", k, made, ok, "and not", winner, last, wins)
	}
	if len(list) > 2 {
		return
	}
	if wins {
		winner++
	}
	if k, made, ok := impl.WinnerOfRace(list[0], list[1], tosses); k != winner || made != last || ok != wins {
		t.Fatal("winner of", list, "by", tosses, "is", k, made, ok, "and not", winner, last, wins)
	}
}

// manyRacers are lists of two up to four patterns; those of two are all that there are of at most three signs.
func manyRacers() [][]string {
	var lists [][]string
	for _, a := range racedPatterns() {
		for k, b := range rivalsOf(a) {
			if len(a) <= 3 || k%7 == 3 {
				lists = append(lists, []string{a, b})
			}
		}
	}
	for _, texts := range [][]string{textsOfTosses(2), textsOfTosses(3), textsOfTosses(4), textsOfTosses(5)} {
		for i := range 24 {
			k := i * 5 % len(texts)
			list := []string{texts[k], texts[(k+1+i%3)%len(texts)], texts[(k+len(texts)-1)%len(texts)]}
			if list[1] != list[2] {
				lists = append(lists, list)
			}
			if other := texts[(k+len(texts)/2)%len(texts)]; !slices.Contains(list, other) && list[1] != list[2] {
				lists = append(lists, append(slices.Clone(list), other))
			}
		}
	}
	return append(lists, []string{"hh", "ht", "th", "tt"}, []string{"tt", "hh", "th"}, []string{"hhhhh", "ttttt", "ththt", "hthth"})
}

func TestWinnersOfRaces(t *testing.T) {
	for _, list := range manyRacers() {
		if !impl.AreManyRacers(list) || !impl.AreRacers(list[0], list[1]) {
			t.Fatal("no racers", list)
		}
		for tosses := 0; tosses <= 8; tosses++ {
			for _, text := range textsOfTosses(tosses) {
				mustWin(t, list, text)
			}
		}
		for _, unit := range []string{"h", "t", "ht", "hht", "htt", "hhhtt", "hhhhht"} {
			mustWin(t, list, strings.Repeat(unit, impl.MaxTosses)[:impl.MaxTosses])
		}
	}
	mustWin(t, []string{"hhhht", "thhhh"}, strings.Repeat("h", impl.MaxTosses-1)+"t")
	k, made, ok := impl.WinnerOfRace("thhhh", "hhhht", strings.Repeat("h", impl.MaxTosses-1)+"t")
	if k != 2 || made != impl.MaxTosses || !ok {
		t.Error("winner", k, made, ok)
	}
	k, made, ok = impl.WinnerOfMany([]string{"hh", "tt", "th"}, "hthh")
	if k != 2 || made != 3 || !ok {
		t.Error("winner of many", k, made, ok)
	}
}

// countsOfTexts counts texts by their last tosses, one less than the patterns have: the signs are the bits of a number.
// It tells for each number of tosses how many are without the patterns, and with which one how many are so no longer by the last toss.
func countsOfTexts(list []string, most int) ([]int, [][]int) {
	racers := map[int]int{}
	for k, p := range list {
		whole := 0
		for _, sign := range p {
			whole *= 2
			if sign == 't' {
				whole++
			}
		}
		racers[whole] = k
	}
	size := 1 << (len(list[0]) - 1)
	here, won := []int{1}, make([]int, len(list))
	var opens []int
	var wins [][]int
	for made := 0; made <= most; made++ {
		open := 0
		for _, n := range here {
			open += n
		}
		opens, wins = append(opens, open), append(wins, won)
		next := make([]int, min(size, 2*len(here)))
		won = make([]int, len(list))
		for last, n := range here {
			for toss := range 2 {
				if k, ok := racers[2*last+toss]; ok && made+1 >= len(list[0]) {
					won[k] += n
				} else {
					next[(2*last+toss)%size] += n
				}
			}
		}
		here = next
	}
	return opens, wins
}

func TestCountsOfRacesAreAllTosses(t *testing.T) {
	for _, list := range manyRacers() {
		opens, wins := countsOfTexts(list, 30)
		over := 0
		for tosses := range 31 {
			open, ok := impl.CountManyOpen(list, tosses)
			mustCount(t, opens[tosses], open, ok, "open", list, tosses)
			over *= 2
			for k := range list {
				won, ok := impl.CountManyWonAt(list, k, tosses)
				mustCount(t, wins[tosses][k], won, ok, "won", list, k, tosses)
				over += won
			}
			if open+over != 1<<tosses {
				t.Fatal("open", list, tosses, "are", open, "and over", over, "which are not all")
			}
			if len(list) == 2 {
				open, ok = impl.CountOpen(list[0], list[1], tosses)
				mustCount(t, opens[tosses], open, ok, "open", list, tosses)
				won, ok := impl.CountWonAt(list[0], list[1], tosses)
				mustCount(t, wins[tosses][0], won, ok, "won", list, tosses)
			}
		}
	}
}

func TestCountsOfRacesAreThoseOfAllTexts(t *testing.T) {
	for _, list := range manyRacers() {
		for tosses := 0; tosses <= 8; tosses++ {
			open, won := 0, make([]int, len(list))
			for _, text := range textsOfTosses(tosses) {
				k, last, wins := winnerByCutting(list, text)
				if !wins {
					open++
				} else if last == tosses {
					won[k]++
				}
			}
			n, ok := impl.CountManyOpen(list, tosses)
			mustCount(t, open, n, ok, "open", list, tosses)
			for k := range list {
				n, ok = impl.CountManyWonAt(list, k, tosses)
				mustCount(t, won[k], n, ok, "won", list, k, tosses)
			}
		}
	}
}

func TestTurnedRaces(t *testing.T) {
	turn := strings.NewReplacer("h", "t", "t", "h")
	for _, a := range racedPatterns() {
		for _, b := range rivalsOf(a) {
			if p, q, ok := impl.TurnRace(a, b); p != turn.Replace(a) || q != turn.Replace(b) || !ok {
				t.Fatal("turned", a, b, p, q, ok)
			}
		}
	}
}

// Of one sign there are two patterns: the first toss ends their race.
func TestRacesOfOneSign(t *testing.T) {
	one := big.NewRat(1, 1)
	for _, c := range raceCoins() {
		for _, x := range [][]string{{"h", "t"}, {"t", "h"}} {
			a, b := x[0], x[1]
			chance := chanceOf(c, a)
			n, d, ok := impl.ChanceFirst(c, a, b)
			mustTell(t, chance, n, d, ok, "first", c, a, b)
			n, d, ok = impl.MeanRace(c, a, b)
			mustTell(t, one, n, d, ok, "mean race", c, a, b)
			n, d, ok = impl.LeadingNumber(c, a, b)
			mustTell(t, new(big.Rat), n, d, ok, "leading number", c, a, b)
			n, d, ok = impl.LeadingNumber(c, a, a)
			mustTell(t, new(big.Rat).Inv(chance), n, d, ok, "leading number", c, a, a)
			var beat, even []string
			switch chance.Cmp(big.NewRat(1, 2)) {
			case -1:
				beat = []string{b}
			case 0:
				even = []string{b}
			}
			list, ok := impl.BeatenBy(c, a)
			mustTexts(t, beat, list, ok, "beaten by", c, a)
			list, ok = impl.EvenRaces(c, a)
			mustTexts(t, even, list, ok, "even races", c, a)
		}
	}
	n, ok := impl.CountWonAt("h", "t", 1)
	mustCount(t, 1, n, ok, "won")
	n, ok = impl.CountWonAt("h", "t", 2)
	mustCount(t, 0, n, ok, "won")
	n, ok = impl.CountOpen("h", "t", 1)
	mustCount(t, 0, n, ok, "open")
}

// By no tosses nobody has won, and nobody wins with the last one.
func TestRacesOfNoTosses(t *testing.T) {
	for _, list := range manyRacers() {
		mustWin(t, list, "")
		n, ok := impl.CountManyOpen(list, 0)
		mustCount(t, 1, n, ok, "open", list)
		for k := range list {
			n, ok = impl.CountManyWonAt(list, k, 0)
			mustCount(t, 0, n, ok, "won", list, k)
		}
	}
}

// Lists of fewer tosses than the patterns have signs are all open.
func TestRacesThatAreTooShort(t *testing.T) {
	for _, a := range racedPatterns() {
		for _, b := range rivalsOf(a) {
			for tosses := range len(a) {
				n, ok := impl.CountOpen(a, b, tosses)
				mustCount(t, 1<<tosses, n, ok, "open", a, b, tosses)
				n, ok = impl.CountWonAt(a, b, tosses)
				mustCount(t, 0, n, ok, "won", a, b, tosses)
				mustWin(t, []string{a, b}, a[:tosses])
			}
			n, ok := impl.CountWonAt(a, b, len(a))
			mustCount(t, 1, n, ok, "won", a, b)
		}
	}
}
