package tests

import (
	"math/big"
	"slices"
	"strconv"
	"strings"
	"testing"
	"testing/synctest"

	"loop.example/g01337/impl"
)

// The tests of promise 5: fair tosses come from pairs that differ, and rolls are read from tosses.

// shortTexts are all texts of at most so many tosses.
func shortTexts(most int) []string {
	var list []string
	for long := range most + 1 {
		list = append(list, textsOfTosses(long)...)
	}
	return list
}

// longTexts are texts of as many tosses as there may be, and some of one less.
func longTexts() []string {
	var list []string
	for _, unit := range []string{"h", "t", "ht", "th", "hht", "htt", "thh", "tth", "hhtt", "hththt", "tthhht", "hhhhhht", "tttttth"} {
		list = append(list, strings.Repeat(unit, impl.MaxFairTosses)[:impl.MaxFairTosses])
	}
	for seed := 1; seed <= 20; seed++ {
		text := ""
		for z := 977 * seed; len(text) < impl.MaxFairTosses-seed%2; z = (z*239 + 1777) % 10007 {
			if z%20 < seed {
				text += "h"
			} else {
				text += "t"
			}
		}
		list = append(list, text)
	}
	return list
}

// lasting is the text of as many tosses as there may be of which only the last ones are not the repeated ones.
func lasting(unit, last string) string {
	return strings.Repeat(unit, impl.MaxFairTosses)[:impl.MaxFairTosses-len(last)] + last
}

// digitsOf tells tosses as binary digits.
func digitsOf(tosses string) string {
	return strings.NewReplacer("h", "1", "t", "0").Replace(tosses)
}

func fairByCutting(tosses string) string {
	fair := ""
	for ; len(tosses) >= 2; tosses = tosses[2:] {
		switch tosses[:2] {
		case "ht":
			fair += "h"
		case "th":
			fair += "t"
		}
	}
	return fair
}

// againByStack takes one text after the other from a stack, of which that of the pairs that differ is above that of the same ones.
func againByStack(tosses string) string {
	var again strings.Builder
	stack := []string{tosses}
	for len(stack) > 0 {
		text := stack[len(stack)-1]
		stack = stack[:len(stack)-1]
		again.WriteString(fairByCutting(text))
		differ, same := "", ""
		for i := range len(text) / 2 {
			switch text[2*i : 2*i+2] {
			case "hh":
				differ, same = differ+"t", same+"h"
			case "tt":
				differ, same = differ+"t", same+"t"
			default:
				differ += "h"
			}
		}
		if len(text) >= 2 {
			stack = append(stack, same, differ)
		}
	}
	return again.String()
}

func mustText(t *testing.T, want, got string, ok bool, what ...any) {
	t.Helper()
	if !ok || got != want {
		t.Fatalf("%v is %q, %v and not %q", what, got, ok, want)
	}
}

func TestExamplesOfChapter5(t *testing.T) {
	text, ok := impl.FairByPairs("hthhth")
	mustText(t, "ht", text, ok, "fair")
	text, ok = impl.FairAgain("hthhth")
	mustText(t, "hth", text, ok, "again")
	text, ok = impl.FairAgain("hth")
	mustText(t, "h", text, ok, "again")
	third := impl.Coin{Heads: 1, Of: 3}
	n, d, ok := impl.MeanTosses(third)
	mustTell(t, big.NewRat(9, 2), n, d, ok, "tosses")
	roll, read, ok := impl.RollOf(6, "hhthtt")
	mustCount(t, 5, roll, ok && read == 6, "roll", read)
	n, d, ok = impl.MeanForRoll(6)
	mustTell(t, big.NewRat(4, 1), n, d, ok, "for a roll")
	n, d, ok = impl.MeanKeeping(6)
	mustTell(t, big.NewRat(11, 3), n, d, ok, "keeping")
	text, read, ok = impl.UnfairOf(third, "tt")
	mustText(t, "h", text, ok && read == 2, "unfair", read)
}

func TestPromise5FairTossesComeFromPairsThatDiffer(t *testing.T) {
	for _, tosses := range append(shortTexts(13), longTexts()...) {
		if !impl.AreManyTosses(tosses) {
			t.Fatal("no tosses", tosses)
		}
		want := fairByCutting(tosses)
		got, ok := impl.FairByPairs(tosses)
		mustText(t, want, got, ok, "fair", tosses)
		n, ok := impl.PairsThatGive(tosses)
		mustCount(t, len(want), n, ok, "pairs", tosses)
		again, ok := impl.FairAgain(tosses)
		mustText(t, againByStack(tosses), again, ok, "again", tosses)
		if !strings.HasPrefix(again, want) {
			t.Fatal("again", tosses, "is", again, "and does not begin with", want)
		}
	}
}

// Of all texts of so many tosses with so many heads, each one having the same chance by any coin, as many give each list of fair tosses of one length.
func TestFairTossesAreFair(t *testing.T) {
	for name, f := range map[string]func(string) (string, bool){"fair": impl.FairByPairs, "again": impl.FairAgain} {
		for long := range 15 {
			texts := make([]map[string]int, long+1)
			for _, tosses := range textsOfTosses(long) {
				heads := strings.Count(tosses, "h")
				if texts[heads] == nil {
					texts[heads] = map[string]int{}
				}
				given, ok := f(tosses)
				if !ok {
					t.Fatal(name, tosses, "fails")
				}
				texts[heads][given]++
			}
			for heads, counts := range texts {
				for given, n := range counts {
					for _, other := range textsOfTosses(len(given)) {
						if counts[other] != n {
							t.Fatal(name, "of", long, "tosses with", heads, "heads", given, "is given", n, "times and", other, counts[other])
						}
					}
				}
			}
		}
	}
}

func TestChancesOfPairs(t *testing.T) {
	for _, c := range allCoins() {
		give := chanceOf(c, "ht")
		give.Add(give, chanceOf(c, "th"))
		n, d, ok := impl.ChanceToGive(c)
		mustTell(t, give, n, d, ok, "to give", c)
		n, d, ok = impl.MeanTosses(c)
		mustTell(t, new(big.Rat).Quo(big.NewRat(2, 1), give), n, d, ok, "tosses", c)
		for tosses := range impl.MaxFairTosses + 1 {
			n, d, ok = impl.MeanFair(c, tosses)
			mustTell(t, new(big.Rat).Mul(big.NewRat(int64(tosses/2), 1), give), n, d, ok, "mean fair", c, tosses)
		}
		for tosses := range 8 {
			want := new(big.Rat)
			for _, text := range textsOfTosses(tosses) {
				given, _ := impl.FairByPairs(text)
				want.Add(want, new(big.Rat).Mul(chanceOf(c, text), big.NewRat(int64(len(given)), 1)))
			}
			n, d, ok = impl.MeanFair(c, tosses)
			mustTell(t, want, n, d, ok, "mean fair of all texts", c, tosses)
		}
	}
}

// A reader tells what is read first from tosses, how many of them that is, and whether they are enough.
type reader func(tosses string) (int, int, bool)

// inTurn reads one thing after the other by cutting.
func inTurn(read reader, tosses string) []int {
	var list []int
	for {
		made, cut, ok := read(tosses)
		if !ok {
			return list
		}
		list, tosses = append(list, made), tosses[cut:]
	}
}

// rollByDigits reads rolls as whole binary numbers.
func rollByDigits(sides int) reader {
	digits := 0
	for 1<<digits < sides {
		digits++
	}
	return func(tosses string) (int, int, bool) {
		if sides == 1 {
			return 1, 0, true
		}
		for end := digits; end <= len(tosses); end += digits {
			if n, _ := strconv.ParseInt(digitsOf(tosses[end-digits:end]), 2, 64); int(n) < sides {
				return int(n) + 1, end, true
			}
		}
		return 0, 0, false
	}
}

// rollByRemainders knows that behind so many tosses, of all numbers that they may be, the last ones are no roll yet:
// as many as 2 to the power of the tosses leaves if it is divided by the sides.
func rollByRemainders(sides int) reader {
	many, two := big.NewInt(int64(sides)), big.NewInt(2)
	return func(tosses string) (int, int, bool) {
		if sides == 1 {
			return 1, 0, true
		}
		for end := 1; end <= len(tosses); end++ {
			open := new(big.Int).Exp(two, big.NewInt(int64(end-1)), many).Int64()
			number, _ := new(big.Int).SetString(digitsOf(tosses[:end]), 2)
			behind := new(big.Int).Sub(new(big.Int).Lsh(big.NewInt(1), uint(end)), number).Int64()
			if k := 2*open - behind; 2*open >= int64(sides) && k < int64(sides) {
				return int(k) + 1, end, true
			}
		}
		return 0, 0, false
	}
}

type die struct {
	name string
	read func(sides int) reader
	roll func(int, string) (int, int, bool)
	all  func(int, string) ([]int, bool)
	mean func(int) (int, int, bool)
}

func dice() []die {
	return []die{
		{"roll", rollByDigits, impl.RollOf, impl.RollsOf, impl.MeanForRoll},
		{"roll keeping", rollByRemainders, impl.RollKeeping, impl.RollsKeeping, impl.MeanKeeping},
	}
}

func TestPromise5RollsAreReadFromTosses(t *testing.T) {
	texts := append(shortTexts(9), longTexts()...)
	for _, x := range dice() {
		for sides := 1; sides <= impl.MaxSides; sides++ {
			read := x.read(sides)
			for _, tosses := range texts {
				want, end, enough := read(tosses)
				if n, last, ok := x.roll(sides, tosses); n != want || last != end || ok != enough {
					t.Fatal(x.name, sides, tosses, "is", n, last, ok, "and not", want, end, enough)
				}
				if sides > 1 {
					list, ok := x.all(sides, tosses)
					mustList(t, inTurn(read, tosses), list, ok, x.name, sides, tosses)
				}
			}
		}
	}
}

// With each number of tosses that it reads a roll is each side in as many texts as any other one.
func TestRollsAreFair(t *testing.T) {
	for _, x := range dice() {
		for sides := 1; sides <= impl.MaxSides; sides++ {
			for long := range 13 {
				counts := make([]int, sides)
				for _, tosses := range textsOfTosses(long) {
					if n, read, ok := x.roll(sides, tosses); ok && read == long {
						counts[n-1]++
					}
				}
				if slices.Min(counts) != slices.Max(counts) {
					t.Fatal(x.name, sides, "is read from", long, "tosses so often:", counts)
				}
			}
		}
	}
}

// The mean of what is read, but at most 12 tosses, is the mean of the document less what is read behind them.
func TestMeansOfRolls(t *testing.T) {
	for _, x := range dice() {
		for sides := 1; sides <= impl.MaxSides; sides++ {
			n, d, ok := x.mean(sides)
			if !ok || d < 1 {
				t.Fatal("mean", x.name, sides, n, d, ok)
			}
			sum, open := int64(0), int64(0)
			for _, tosses := range textsOfTosses(12) {
				if _, read, ok := x.roll(sides, tosses); ok {
					sum += int64(read)
				} else {
					sum, open = sum+12, open+1
				}
			}
			least := big.NewRat(sum, 1<<12)
			most := new(big.Rat).Add(least, big.NewRat(8*open, 1<<12))
			if mean := big.NewRat(int64(n), int64(d)); mean.Cmp(least) < 0 || mean.Cmp(most) > 0 {
				t.Fatal("mean", x.name, sides, "is", mean, "and not from", least, "to", most)
			}
		}
	}
}

func TestMeanForRollIsThatOfTheFirstDigits(t *testing.T) {
	for sides := 1; sides <= impl.MaxSides; sides++ {
		digits := 0
		for 1<<digits < sides {
			digits++
		}
		enough := big.NewRat(int64(sides), 1<<digits)
		n, d, ok := impl.MeanForRoll(sides)
		mustTell(t, new(big.Rat).Quo(big.NewRat(int64(digits), 1), enough), n, d, ok, "for a roll", sides)
	}
}

// Each toss is read if all before it have left something: 300 of these chances add up to the mean but for less than the tests see.
func TestMeanKeepingIsTheSumOfAllTosses(t *testing.T) {
	little := new(big.Rat).SetFrac(big.NewInt(1), new(big.Int).Lsh(big.NewInt(1), 200))
	for sides := 2; sides <= impl.MaxSides; sides++ {
		sum, open := new(big.Rat), big.NewRat(1, 1)
		numbers := int64(1)
		for range 300 {
			sum.Add(sum, open)
			numbers *= 2
			if numbers >= int64(sides) {
				open.Mul(open, big.NewRat(numbers-int64(sides), numbers))
				numbers -= int64(sides)
			}
			if numbers == 0 {
				break
			}
		}
		n, d, ok := impl.MeanKeeping(sides)
		if !ok || d < 1 || d >= 1<<40 {
			t.Fatal("mean keeping", sides, n, d, ok)
		}
		mean := big.NewRat(int64(n), int64(d))
		mustTell(t, mean, n, d, ok, "mean keeping", sides)
		if rest := new(big.Rat).Sub(mean, sum); rest.Sign() < 0 || rest.Cmp(little) > 0 {
			t.Fatal("mean keeping", sides, "is", mean, "and not", sum.FloatString(20))
		}
	}
	for sides, want := range map[int]*big.Rat{
		2: big.NewRat(1, 1), 3: big.NewRat(8, 3), 4: big.NewRat(2, 1), 5: big.NewRat(18, 5), 7: big.NewRat(24, 7), 8: big.NewRat(3, 1),
	} {
		n, d, ok := impl.MeanKeeping(sides)
		mustTell(t, want, n, d, ok, "mean keeping", sides)
	}
}

// unfairByPlaces looks where the tosses, as digits, lead: it is h as soon as all numbers that begin so are below the chance, and t as soon as none is.
func unfairByPlaces(c impl.Coin) reader {
	chance := big.NewRat(int64(c.Heads), int64(c.Of))
	return func(tosses string) (int, int, bool) {
		at, wide := new(big.Rat), big.NewRat(1, 1)
		for end := range len(tosses) {
			wide.Mul(wide, big.NewRat(1, 2))
			if tosses[end] == 'h' {
				at.Add(at, wide)
			}
			if at.Cmp(chance) >= 0 {
				return 't', end + 1, true
			}
			if new(big.Rat).Add(at, wide).Cmp(chance) <= 0 {
				return 'h', end + 1, true
			}
		}
		return 0, 0, false
	}
}

func TestUnfairTosses(t *testing.T) {
	texts := append(shortTexts(7), longTexts()...)
	for _, c := range allCoins() {
		read := unfairByPlaces(c)
		for _, tosses := range texts {
			want := ""
			made, end, enough := read(tosses)
			if enough {
				want = string(rune(made))
			}
			if got, last, ok := impl.UnfairOf(c, tosses); got != want || last != end || ok != enough {
				t.Fatal("unfair", c, tosses, "is", got, last, ok, "and not", want, end, enough)
			}
			all := ""
			for _, one := range inTurn(read, tosses) {
				all += string(rune(one))
			}
			got, ok := impl.UnfairTosses(c, tosses)
			mustText(t, all, got, ok, "unfair", c, tosses)
		}
	}
}

// Of all texts of 10 tosses as many are heads and tails as the chance says, and one, or none if the digits have ended, is too short.
func TestUnfairTossesHaveTheChanceOfTheCoin(t *testing.T) {
	texts := textsOfTosses(10)
	for _, c := range allCoins() {
		counts := map[string]int{}
		for _, tosses := range texts {
			got, _, _ := impl.UnfairOf(c, tosses)
			counts[got]++
		}
		heads, left := len(texts)*c.Heads/c.Of, len(texts)*c.Heads%c.Of
		if counts["h"] != heads || counts[""] != min(left, 1) || counts["t"] != len(texts)-heads-min(left, 1) {
			t.Fatal("unfair", c, counts)
		}
	}
}

func TestUnfairTossesWhoseDigitsEnd(t *testing.T) {
	for text, want := range map[string][]string{
		"1/2": {"t h", "h t"}, "2/4": {"t h", "h t"}, "3/6": {"t h", "h t"}, "4/8": {"t h", "h t"}, "5/10": {"t h", "h t"},
		"1/4": {"h t", "tt h", "th t"}, "2/8": {"h t", "tt h", "th t"}, "3/4": {"t h", "ht h", "hh t"}, "6/8": {"t h", "ht h", "hh t"},
		"1/8": {"h t", "th t", "ttt h", "tth t"}, "3/8": {"h t", "tt h", "tht h", "thh t"},
		"5/8": {"t h", "hh t", "htt h", "hth t"}, "7/8": {"t h", "ht h", "hht h", "hhh t"},
	} {
		c, ok := impl.ParseCoin(text)
		if !ok {
			t.Fatal("no coin", text)
		}
		for _, line := range want {
			tosses, toss, _ := strings.Cut(line, " ")
			for _, behind := range []string{"", "h", "t", "thhhht"} {
				got, read, ok := impl.UnfairOf(c, tosses+behind)
				mustText(t, toss, got, ok && read == len(tosses), "unfair", c, tosses+behind, read)
			}
		}
	}
	for _, tosses := range longTexts() {
		got, ok := impl.UnfairTosses(fair, tosses)
		mustText(t, strings.NewReplacer("h", "t", "t", "h").Replace(tosses), got, ok, "unfair", tosses)
	}
}

func TestChancesOfAllTosses(t *testing.T) {
	for _, c := range allCoins() {
		for _, tosses := range shortTexts(impl.MaxPattern) {
			n, d, ok := impl.ChanceOfAll(c, tosses)
			mustTell(t, chanceOf(c, tosses), n, d, ok, "all", c, tosses)
		}
	}
}

func TestTextsWithTheSameFairTosses(t *testing.T) {
	texts := append(shortTexts(6), longTexts()[:5]...)
	for _, a := range texts {
		for _, b := range texts {
			if same, ok := impl.SameFair(a, b); same != (fairByCutting(a) == fairByCutting(b)) || !ok {
				t.Fatal("same", a, b, same, ok)
			}
		}
	}
}

// The empty text gives all that is read from no tosses, and does not fail for that.
func TestNoFairTossesAtAll(t *testing.T) {
	if !impl.AreManyTosses("") {
		t.Error("no tosses are none")
	}
	for _, f := range []func(string) (string, bool){impl.FairByPairs, impl.FairAgain} {
		text, ok := f("")
		mustText(t, "", text, ok, "fair")
	}
	n, ok := impl.PairsThatGive("")
	mustCount(t, 0, n, ok, "pairs")
	if same, ok := impl.SameFair("", ""); !same || !ok {
		t.Error("same", same, ok)
	}
	for _, c := range allCoins() {
		n, d, ok := impl.MeanFair(c, 0)
		mustTell(t, new(big.Rat), n, d, ok, "mean fair", c)
		n, d, ok = impl.ChanceOfAll(c, "")
		mustTell(t, big.NewRat(1, 1), n, d, ok, "all", c)
		text, ok := impl.UnfairTosses(c, "")
		mustText(t, "", text, ok, "unfair", c)
	}
	for _, x := range dice() {
		for sides := 2; sides <= impl.MaxSides; sides++ {
			list, ok := x.all(sides, "")
			mustList(t, nil, list, ok, x.name, sides)
		}
	}
}

func TestTossesThatAreLeftOver(t *testing.T) {
	for long := 0; long <= 10; long += 2 {
		for _, tosses := range textsOfTosses(long) {
			want, _ := impl.FairByPairs(tosses)
			again, _ := impl.FairAgain(tosses)
			for _, over := range []string{"h", "t"} {
				got, ok := impl.FairByPairs(tosses + over)
				mustText(t, want, got, ok, "fair", tosses, over)
				got, ok = impl.FairAgain(tosses + over)
				mustText(t, again, got, ok, "again", tosses, over)
				n, ok := impl.PairsThatGive(tosses + over)
				mustCount(t, len(want), n, ok, "pairs", tosses, over)
				same, ok := impl.SameFair(tosses, tosses+over)
				if !same || !ok {
					t.Fatal("same", tosses, over, same, ok)
				}
			}
		}
	}
}

func TestFairAgainFromLessThanTwo(t *testing.T) {
	for _, tosses := range []string{"", "h", "t"} {
		got, ok := impl.FairAgain(tosses)
		mustText(t, "", got, ok, "again", tosses)
	}
	// Of two tosses one is left behind a pair, and of three nothing more.
	for tosses, want := range map[string]string{"hh": "", "tt": "", "ht": "h", "th": "t", "hht": "", "htt": "h", "hhtt": "h", "tthh": "t", "htth": "ht", "hthh": "hh"} {
		got, ok := impl.FairAgain(tosses)
		mustText(t, want, got, ok, "again", tosses)
	}
}

// A roll of one side reads nothing, so that there is no end of such rolls.
func TestDiceOfOneSide(t *testing.T) {
	for _, x := range dice() {
		for _, tosses := range append(shortTexts(3), longTexts()...) {
			n, read, ok := x.roll(1, tosses)
			mustCount(t, 1, n, ok && read == 0, x.name, tosses, read)
			mustNotTell(t, x.all, 1, tosses)
		}
		n, d, ok := x.mean(1)
		mustTell(t, new(big.Rat), n, d, ok, x.name)
	}
}

// Whatever is read from tosses needs all of these: it fails with one less.
func TestTooFewTosses(t *testing.T) {
	mustNeed := func(f any, what any, tosses string, read int, ok bool) {
		t.Helper()
		if ok && read > 0 {
			mustNotTell(t, f, what, tosses[:read-1])
		} else if !ok {
			mustNotTell(t, f, what, tosses)
		}
	}
	for _, tosses := range append(shortTexts(7), longTexts()...) {
		for _, x := range dice() {
			for sides := 2; sides <= impl.MaxSides; sides++ {
				_, read, ok := x.roll(sides, tosses)
				mustNeed(x.roll, sides, tosses, read, ok)
			}
		}
		for _, c := range allCoins() {
			_, read, ok := impl.UnfairOf(c, tosses)
			mustNeed(impl.UnfairOf, c, tosses, read, ok)
		}
	}
	for _, x := range dice() {
		for sides := 2; sides <= impl.MaxSides; sides++ {
			mustNotTell(t, x.roll, sides, "")
		}
		// Twelve sides need four tosses, and hhhh are too great for them.
		mustNotTell(t, x.roll, 12, "hhh")
		mustNotTell(t, x.roll, 12, strings.Repeat("h", impl.MaxFairTosses))
	}
	for _, c := range allCoins() {
		mustNotTell(t, impl.UnfairOf, c, "")
	}
	// These tosses are all digits of 1/3 and of 2/3.
	mustNotTell(t, impl.UnfairOf, impl.Coin{Heads: 1, Of: 3}, strings.Repeat("th", impl.MaxFairTosses/2))
	mustNotTell(t, impl.UnfairOf, impl.Coin{Heads: 2, Of: 3}, strings.Repeat("ht", impl.MaxFairTosses/2))
}

func TestLimitsOfTossesMetExactly(t *testing.T) {
	most := impl.MaxFairTosses
	got, ok := impl.FairByPairs(lasting("ht", ""))
	mustText(t, strings.Repeat("h", most/2), got, ok, "fair")
	got, ok = impl.FairByPairs(lasting("h", "t"))
	mustText(t, "h", got, ok, "fair")
	n, ok := impl.PairsThatGive(lasting("th", "hh"))
	mustCount(t, most/2-1, n, ok, "pairs")
	roll, read, ok := impl.RollOf(12, lasting("h", "hthh"))
	mustCount(t, 12, roll, ok && read == most, "roll", read)
	roll, read, ok = impl.RollKeeping(3, lasting("h", "t"))
	mustCount(t, 3, roll, ok && read == most, "roll keeping", read)
	for _, x := range dice() {
		list, ok := x.all(2, lasting("ht", ""))
		if len(list) != most || list[0] != 2 || list[most-1] != 1 || !ok {
			t.Error(x.name, list, ok)
		}
		list, ok = x.all(impl.MaxSides, lasting("t", ""))
		if len(list) != most/4 || list[0] != 1 || !ok {
			t.Error(x.name, list, ok)
		}
	}
	got, read, ok = impl.UnfairOf(impl.Coin{Heads: 1, Of: 3}, lasting("th", "tt"))
	mustText(t, "h", got, ok && read == most, "unfair", read)
	got, read, ok = impl.UnfairOf(impl.Coin{Heads: 2, Of: 3}, lasting("ht", "hh"))
	mustText(t, "t", got, ok && read == most, "unfair", read)
	num, den, ok := impl.MeanFair(fair, most)
	mustTell(t, big.NewRat(int64(most/4), 1), num, den, ok, "mean fair")
	num, den, ok = impl.ChanceOfAll(impl.Coin{Heads: 1, Of: 10}, "hhhhhhhh")
	mustTell(t, big.NewRat(1, 100000000), num, den, ok, "all")
}

// A bubble is left only when all that was started in it has ended: who sends tosses must not wait for ever if nobody reads on.
func TestNothingGoesOnBehindACall(t *testing.T) {
	synctest.Test(t, func(t *testing.T) {
		for _, tosses := range append(shortTexts(4), longTexts()...) {
			for _, x := range dice() {
				for sides := 1; sides <= impl.MaxSides; sides++ {
					x.roll(sides, tosses)
					x.all(sides, tosses)
				}
			}
			for _, c := range allCoins() {
				impl.UnfairOf(c, tosses)
				impl.UnfairTosses(c, tosses)
			}
		}
	})
}
