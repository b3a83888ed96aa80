package tests

import (
	"math/big"
	"slices"
	"strings"
	"testing"

	"loop.example/g01337/impl"
)

// The tests of promise 7: chances of signs are those of all days together, and likeliest days are the likeliest.

// textsOfSigns lists all texts of n and u of one length, in order.
func textsOfSigns(long int) []string {
	var list []string
	for _, days := range textsOf(long) {
		list = append(list, strings.NewReplacer("d", "n", "w", "u").Replace(days))
	}
	return list
}

func allSigns() []string {
	var list []string
	for long := 1; long <= impl.MaxSigns; long++ {
		list = append(list, textsOfSigns(long)...)
	}
	return list
}

// hidden has the umbrellas told as a chain is: there are as many of both.
func hidden(c, umbrellas impl.Chain) impl.Hidden {
	return impl.Hidden{Chain: c, OnDry: umbrellas.Wets, OnWet: umbrellas.Dries, Per: umbrellas.Of}
}

// namedHidden have chains that never change, always change, end, or mix, and umbrellas that tell nothing, all, or something.
func namedHidden(t *testing.T) []impl.Hidden {
	t.Helper()
	var list []impl.Hidden
	for _, chain := range []string{"1-1/2", "1-2/4", "0-0/1", "0-0/10", "1-1/1", "10-10/10", "0-3/5", "3-0/5", "9-1/10", "3-7/10", "2-5/7", "1-1/10"} {
		for _, umbrellas := range []string{"0-1/2", "1-2/4", "0-0/1", "1-1/1", "0-10/10", "10-0/10", "3-3/7", "1-9/10", "9-2/10", "7-10/10", "1-2/3"} {
			list = append(list, hidden(mustParse(t, chain), mustParse(t, umbrellas)))
		}
	}
	return list
}

// manyHidden are all of the least numbers, and some of all.
func manyHidden() []impl.Hidden {
	var list []impl.Hidden
	chains := allChains()
	for i, c := range chains {
		for k, umbrellas := range chains {
			if c.Of <= 2 && umbrellas.Of <= 2 || (i*len(chains)+k)%997 == 0 {
				list = append(list, hidden(c, umbrellas))
			}
		}
	}
	return list
}

// shown is the chance of a sign on a day as the document tells it, without the program.
func shown(h impl.Hidden, day, sign byte) *big.Rat {
	taken := h.OnDry
	if day == 'w' {
		taken = h.OnWet
	}
	if sign == 'n' {
		taken = h.Per - taken
	}
	return big.NewRat(int64(taken), int64(h.Per))
}

// chancesOfBoth are those of signs with all days, in the order of these.
func chancesOfBoth(h impl.Hidden, signs string) []*big.Rat {
	var list []*big.Rat
	for _, days := range textsOf(len(signs)) {
		chance := product(h.Chain, days)
		chance.Mul(chance, big.NewRat(1, 2))
		for i := range len(signs) {
			chance.Mul(chance, shown(h, days[i], signs[i]))
		}
		list = append(list, chance)
	}
	return list
}

func sumOf(list []*big.Rat) *big.Rat {
	sum := new(big.Rat)
	for _, chance := range list {
		sum.Add(sum, chance)
	}
	return sum
}

// mustCome is false, and asks that nothing is told behind signs, if they cannot come.
func mustCome(t *testing.T, h impl.Hidden, signs string, come *big.Rat) bool {
	t.Helper()
	if come.Sign() > 0 {
		return true
	}
	for _, day := range kinds {
		for k := range len(signs) {
			mustNotTell(t, impl.ChanceOfDay, h, signs, k, day)
		}
		mustNotTell(t, impl.ChanceOfHidden, h, signs, strings.Repeat(day, len(signs)))
	}
	mustNotTell(t, impl.LikeliestHidden, h, signs)
	mustNotTell(t, impl.FirstPossible, h, signs)
	mustNotTell(t, impl.ChanceOfNextSign, h, signs, "u")
	mustNotTell(t, impl.ChanceOfNextSign, h, signs, "n")
	mustNotTell(t, impl.DayByDay, h, signs)
	possible, ok := impl.CountPossible(h, signs)
	mustCount(t, 0, possible, ok, "possible", h, signs)
	return false
}

func mustParseHidden(t *testing.T, text string) impl.Hidden {
	t.Helper()
	h, ok := impl.ParseHidden(text)
	if !ok {
		t.Fatal("no hidden days", text)
	}
	return h
}

func TestExamplesOfChapter7(t *testing.T) {
	h := mustParseHidden(t, "1-1/2:0-1/2")
	if h != (impl.Hidden{Chain: impl.Chain{Wets: 1, Dries: 1, Of: 2}, OnDry: 0, OnWet: 1, Per: 2}) {
		t.Fatal("1-1/2:0-1/2 is", h)
	}
	n, d, ok := impl.ChanceOfSigns(h, "u")
	mustTell(t, big.NewRat(1, 4), n, d, ok, "signs u")
	n, d, ok = impl.ChanceOfDay(h, "u", 0, "w")
	mustTell(t, big.NewRat(1, 1), n, d, ok, "wet by u")
	n, d, ok = impl.ChanceOfDay(h, "u", 0, "d")
	mustTell(t, new(big.Rat), n, d, ok, "dry by u")
	n, d, ok = impl.ChanceOfSigns(h, "n")
	mustTell(t, big.NewRat(3, 4), n, d, ok, "signs n")
	n, d, ok = impl.ChanceOfDay(h, "n", 0, "w")
	mustTell(t, big.NewRat(1, 3), n, d, ok, "wet by n")
	text, ok := impl.LikeliestHidden(h, "nu")
	mustText(t, "dw", text, ok, "likeliest")
	possible, ok := impl.CountPossible(h, "nu")
	mustCount(t, 2, possible, ok, "possible")
	n, d, ok = impl.ChanceOfNextSign(h, "nu", "u")
	mustTell(t, big.NewRat(1, 4), n, d, ok, "next u")
	n, d, ok = impl.MeanSigns(h, 4)
	mustTell(t, big.NewRat(1, 1), n, d, ok, "mean")
}

func TestPromise7ChancesOfSignsAreThoseOfAllDaysTogether(t *testing.T) {
	for _, h := range namedHidden(t) {
		for _, signs := range allSigns() {
			both := chancesOfBoth(h, signs)
			come := sumOf(both)
			n, d, ok := impl.ChanceOfSigns(h, signs)
			mustTell(t, come, n, d, ok, "signs", h, signs)
			comes, together := mustCome(t, h, signs, come), new(big.Rat)
			for i, days := range textsOf(len(signs)) {
				n, d, ok = impl.ChanceBoth(h, days, signs)
				mustTell(t, both[i], n, d, ok, "both", h, days, signs)
				together.Add(together, big.NewRat(int64(n), int64(d)))
				if comes {
					n, d, ok = impl.ChanceOfHidden(h, signs, days)
					mustTell(t, new(big.Rat).Quo(both[i], come), n, d, ok, "hidden", h, signs, days)
				}
			}
			n, d, ok = impl.ChanceOfSigns(h, signs)
			mustTell(t, together, n, d, ok, "signs of all days together", h, signs)
		}
	}
}

func TestPromise7LikeliestDaysAreTheLikeliest(t *testing.T) {
	for _, h := range namedHidden(t) {
		for _, signs := range allSigns() {
			both := chancesOfBoth(h, signs)
			if !mustCome(t, h, signs, sumOf(both)) {
				continue
			}
			likeliest, first, possible := 0, len(both), 0
			for i, chance := range both {
				if chance.Cmp(both[likeliest]) > 0 {
					likeliest = i
				}
				if chance.Sign() > 0 {
					first = min(first, i)
					possible++
				}
			}
			texts := textsOf(len(signs))
			days, ok := impl.LikeliestHidden(h, signs)
			mustText(t, texts[likeliest], days, ok, "likeliest", h, signs)
			days, ok = impl.FirstPossible(h, signs)
			mustText(t, texts[first], days, ok, "first", h, signs)
			count, ok := impl.CountPossible(h, signs)
			mustCount(t, possible, count, ok, "possible", h, signs)
		}
	}
}

func TestNoDaysAreLikelierThanTheLikeliest(t *testing.T) {
	for _, h := range namedHidden(t) {
		for _, signs := range allSigns() {
			likeliest, ok := impl.LikeliestHidden(h, signs)
			if !ok {
				continue
			}
			n, d, _ := impl.ChanceOfHidden(h, signs, likeliest)
			most := big.NewRat(int64(n), int64(d))
			for _, days := range textsOf(len(signs)) {
				n, d, _ = impl.ChanceOfHidden(h, signs, days)
				if c := big.NewRat(int64(n), int64(d)).Cmp(most); c > 0 || c == 0 && days < likeliest {
					t.Fatal(days, "before", likeliest, "by", h, signs)
				}
			}
		}
	}
}

// pair has a chance for dry, and one for wet days.
type pair [2]*big.Rat

// walk tells hidden days from day to day, so that no days are listed.
type walk struct {
	next  [2]pair
	shown map[byte]pair
}

func walkOf(h impl.Hidden) walk {
	w := walk{shown: map[byte]pair{}}
	for i, day := range "dw" {
		w.next[i] = pair{step(h.Chain, byte(day), 'd'), step(h.Chain, byte(day), 'w')}
	}
	for _, sign := range []byte("nu") {
		w.shown[sign] = pair{shown(h, 'd', sign), shown(h, 'w', sign)}
	}
	return w
}

// before has for each day the chances that it is dry or wet, and that the signs up to there come.
func (w walk) before(signs string) []pair {
	var list []pair
	here := pair{big.NewRat(1, 2), big.NewRat(1, 2)}
	for k := range len(signs) {
		if k > 0 {
			here = w.dayLater(list[k-1])
		}
		at := w.shown[signs[k]]
		list = append(list, pair{here[0].Mul(here[0], at[0]), here[1].Mul(here[1], at[1])})
	}
	return list
}

func (w walk) dayLater(here pair) pair {
	var later pair
	for i := range later {
		stays, comes := new(big.Rat).Mul(here[i], w.next[i][i]), new(big.Rat).Mul(here[1-i], w.next[1-i][i])
		later[i] = stays.Add(stays, comes)
	}
	return later
}

// behind has for each day the chances that the signs behind it come if it is dry, or wet.
func (w walk) behind(signs string) []pair {
	list := make([]pair, len(signs))
	list[len(signs)-1] = pair{big.NewRat(1, 1), big.NewRat(1, 1)}
	for k := len(signs) - 2; k >= 0; k-- {
		at, then := w.shown[signs[k+1]], list[k+1]
		for i := range 2 {
			sum := new(big.Rat)
			for j := range 2 {
				chance := new(big.Rat).Mul(w.next[i][j], at[j])
				sum.Add(sum, chance.Mul(chance, then[j]))
			}
			list[k][i] = sum
		}
	}
	return list
}

func TestChancesOfDaysFromDayToDay(t *testing.T) {
	for _, h := range manyHidden() {
		w := walkOf(h)
		for _, signs := range allSigns() {
			before, behind := w.before(signs), w.behind(signs)
			come := sumOf(before[len(signs)-1][:])
			n, d, ok := impl.ChanceOfSigns(h, signs)
			mustTell(t, come, n, d, ok, "signs", h, signs)
			if !mustCome(t, h, signs, come) {
				continue
			}
			likelier := ""
			for k := range len(signs) {
				var at pair
				for i, day := range kinds {
					at[i] = new(big.Rat).Mul(before[k][i], behind[k][i])
					at[i].Quo(at[i], come)
					n, d, ok = impl.ChanceOfDay(h, signs, k, day)
					mustTell(t, at[i], n, d, ok, "day", h, signs, k, day)
				}
				likelier += []string{"w", "?", "d"}[at[0].Cmp(at[1])+1]
			}
			text, ok := impl.DayByDay(h, signs)
			mustText(t, likelier, text, ok, "day by day", h, signs)
			later := w.dayLater(before[len(signs)-1])
			for _, sign := range []byte("nu") {
				comes := new(big.Rat).Mul(later[0], w.shown[sign][0])
				comes.Add(comes, new(big.Rat).Mul(later[1], w.shown[sign][1]))
				n, d, ok = impl.ChanceOfNextSign(h, signs, string(sign))
				mustTell(t, comes.Quo(comes, come), n, d, ok, "next", h, signs, string(sign))
			}
		}
	}
}

// best has for each day, dry or wet, the greatest chance of it and what is behind it, and how many ways lead on from it.
type best struct {
	most [2]*big.Rat
	ways [2]int
}

func (w walk) bestFrom(signs string) []best {
	list := make([]best, len(signs))
	for k := len(signs) - 1; k >= 0; k-- {
		for i := range 2 {
			most, ways := new(big.Rat), 0
			if k == len(signs)-1 {
				most, ways = big.NewRat(1, 1), 1
			} else {
				for j := range 2 {
					chance := new(big.Rat).Mul(w.next[i][j], list[k+1].most[j])
					if chance.Sign() > 0 {
						ways += list[k+1].ways[j]
					}
					if chance.Cmp(most) > 0 {
						most = chance
					}
				}
			}
			at := w.shown[signs[k]][i]
			if at.Sign() == 0 {
				ways = 0
			}
			list[k].most[i], list[k].ways[i] = new(big.Rat).Mul(most, at), ways
		}
	}
	return list
}

// bestWays are the likeliest days, the first possible ones, and how many are possible.
func (w walk) bestWays(signs string) (string, string, int) {
	list := w.bestFrom(signs)
	chances, leads := pair{big.NewRat(1, 2), big.NewRat(1, 2)}, pair{big.NewRat(1, 1), big.NewRat(1, 1)}
	likeliest, first := "", ""
	for _, b := range list {
		wets, drys := new(big.Rat).Mul(chances[1], b.most[1]), new(big.Rat).Mul(chances[0], b.most[0])
		i, j := 0, 0
		if wets.Cmp(drys) > 0 {
			i = 1
		}
		if leads[0].Sign() == 0 || b.ways[0] == 0 {
			j = 1
		}
		likeliest, first = likeliest+kinds[i], first+kinds[j]
		chances, leads = w.next[i], w.next[j]
	}
	return likeliest, first, list[0].ways[0] + list[0].ways[1]
}

func TestLikeliestDaysFromDayToDay(t *testing.T) {
	for _, h := range manyHidden() {
		w := walkOf(h)
		for _, signs := range allSigns() {
			likeliest, first, possible := w.bestWays(signs)
			count, ok := impl.CountPossible(h, signs)
			mustCount(t, possible, count, ok, "possible", h, signs)
			if possible == 0 {
				mustCome(t, h, signs, new(big.Rat))
				continue
			}
			days, ok := impl.LikeliestHidden(h, signs)
			mustText(t, likeliest, days, ok, "likeliest", h, signs)
			days, ok = impl.FirstPossible(h, signs)
			mustText(t, first, days, ok, "first", h, signs)
		}
	}
}

func TestChancesOfAllSignsAddUp(t *testing.T) {
	one := big.NewRat(1, 1)
	for _, h := range manyHidden() {
		for long := 1; long <= impl.MaxSigns; long++ {
			all := new(big.Rat)
			for _, signs := range textsOfSigns(long) {
				n, d, _ := impl.ChanceOfSigns(h, signs)
				come := big.NewRat(int64(n), int64(d))
				all.Add(all, come)
				if come.Sign() == 0 {
					continue
				}
				next := new(big.Rat)
				for _, sign := range []string{"n", "u"} {
					n, d, ok := impl.ChanceOfNextSign(h, signs, sign)
					next.Add(next, big.NewRat(int64(n), int64(d)))
					if long < impl.MaxSigns {
						more, per, _ := impl.ChanceOfSigns(h, signs+sign)
						mustTell(t, new(big.Rat).Quo(big.NewRat(int64(more), int64(per)), come), n, d, ok, "next", h, signs, sign)
					}
				}
				if next.Cmp(one) != 0 {
					t.Fatal("next", h, signs, "are together", next)
				}
			}
			if all.Cmp(one) != 0 {
				t.Fatal("all signs", h, long, "are together", all)
			}
		}
	}
}

func TestLikeliestSignsAreTheFirstOnesOfGreatestChance(t *testing.T) {
	for _, h := range manyHidden() {
		w := walkOf(h)
		for many := 1; many <= impl.MaxSigns; many++ {
			want, most := "", new(big.Rat)
			for _, signs := range textsOfSigns(many) {
				if come := sumOf(w.before(signs)[many-1][:]); come.Cmp(most) > 0 {
					want, most = signs, come
				}
			}
			signs, ok := impl.LikeliestSigns(h, many)
			mustText(t, want, signs, ok, "likeliest signs", h, many)
		}
	}
}

func TestMeanSignsAreThoseOfAllSigns(t *testing.T) {
	for _, h := range manyHidden() {
		n, d, ok := impl.MeanSigns(h, 0)
		mustTell(t, new(big.Rat), n, d, ok, "mean", h, 0)
		w := walkOf(h)
		for many := 1; many <= impl.MaxSigns; many++ {
			mean := new(big.Rat)
			for _, signs := range textsOfSigns(many) {
				come := sumOf(w.before(signs)[many-1][:])
				taken := big.NewRat(int64(strings.Count(signs, "u")), 1)
				mean.Add(mean, taken.Mul(taken, come))
			}
			n, d, ok = impl.MeanSigns(h, many)
			mustTell(t, mean, n, d, ok, "mean", h, many)
		}
	}
}

// Behind signs that tell nothing days are as likely as they are before any sign.
func TestSignsThatTellNothing(t *testing.T) {
	for _, umbrellas := range []string{"0-0/1", "1-1/1", "3-3/7", "10-10/10", "5-5/10"} {
		for _, c := range allChains() {
			h := hidden(c, mustParse(t, umbrellas))
			tells, ok := impl.DoSignsTell(h)
			mustSay(t, false, tells, ok, "tell", h)
			for _, signs := range []string{"u", "n", "nu", "unnu", "nnnnnn", "uuuuuu"} {
				come := big.NewRat(1, 1)
				for k := range len(signs) {
					come.Mul(come, shown(h, 'd', signs[k]))
				}
				n, d, ok := impl.ChanceOfSigns(h, signs)
				mustTell(t, come, n, d, ok, "signs", h, signs)
				if !mustCome(t, h, signs, come) {
					continue
				}
				n, d, ok = impl.ChanceOfNextSign(h, signs, "u")
				mustTell(t, big.NewRat(int64(h.OnWet), int64(h.Per)), n, d, ok, "next", h, signs)
				days := strings.Repeat("dw", impl.MaxSigns)[:len(signs)]
				n, d, ok = impl.ChanceOfHidden(h, signs, days)
				want := product(c, days)
				mustTell(t, want.Mul(want, big.NewRat(1, 2)), n, d, ok, "hidden", h, signs, days)
				for k := range len(signs) {
					fromDry, fromDryTo, _ := impl.ChanceLater(c, "d", "w", k)
					fromWet, fromWetTo, _ := impl.ChanceLater(c, "w", "w", k)
					wet := new(big.Rat).Add(big.NewRat(int64(fromDry), int64(2*fromDryTo)), big.NewRat(int64(fromWet), int64(2*fromWetTo)))
					n, d, ok = impl.ChanceOfDay(h, signs, k, "w")
					mustTell(t, wet, n, d, ok, "wet", h, signs, k)
				}
			}
		}
	}
}

// If an umbrella is taken on all wet days, and on no others, or the other way round, signs tell all.
func TestSignsThatTellAll(t *testing.T) {
	for _, c := range allChains() {
		for _, per := range []int{1, impl.MaxOf} {
			wets := impl.Hidden{Chain: c, OnDry: 0, OnWet: per, Per: per}
			drys := impl.Hidden{Chain: c, OnDry: per, OnWet: 0, Per: per}
			for _, days := range []string{"d", "w", "dw", "wd", "dddddd", "wwwwww", "dwwddw", "wdwdwd"} {
				mustTellAll(t, wets, days, strings.NewReplacer("d", "n", "w", "u").Replace(days))
				mustTellAll(t, drys, days, strings.NewReplacer("d", "u", "w", "n").Replace(days))
			}
		}
	}
}

func mustTellAll(t *testing.T, h impl.Hidden, days, signs string) {
	t.Helper()
	tells, ok := impl.DoSignsTell(h)
	mustSay(t, true, tells, ok, "tell", h)
	come := product(h.Chain, days)
	come.Mul(come, big.NewRat(1, 2))
	n, d, ok := impl.ChanceOfSigns(h, signs)
	mustTell(t, come, n, d, ok, "signs", h, signs)
	n, d, ok = impl.ChanceBoth(h, days, signs)
	mustTell(t, come, n, d, ok, "both", h, days, signs)
	if !mustCome(t, h, signs, come) {
		return
	}
	for _, f := range []func(impl.Hidden, string) (string, bool){impl.LikeliestHidden, impl.FirstPossible, impl.DayByDay} {
		text, ok := f(h, signs)
		mustText(t, days, text, ok, "days", h, signs)
	}
	possible, ok := impl.CountPossible(h, signs)
	mustCount(t, 1, possible, ok, "possible", h, signs)
	n, d, ok = impl.ChanceOfHidden(h, signs, days)
	mustTell(t, big.NewRat(1, 1), n, d, ok, "hidden", h, signs, days)
	last := len(days) - 1
	n, d, ok = impl.ChanceOfDay(h, signs, last, days[last:])
	mustTell(t, big.NewRat(1, 1), n, d, ok, "last day", h, signs, days)
	next, per, _ := impl.ChanceNext(h.Chain, days[last:], days[last:])
	n, d, ok = impl.ChanceOfNextSign(h, signs, signs[last:])
	mustTell(t, big.NewRat(int64(next), int64(per)), n, d, ok, "next", h, signs)
}

func TestChainsThatNeverChange(t *testing.T) {
	h := mustParseHidden(t, "0-0/3:1-3/4")
	n, d, ok := impl.ChanceOfSigns(h, "uun")
	mustTell(t, big.NewRat(3+9, 128), n, d, ok, "signs")
	n, d, ok = impl.ChanceBoth(h, "dwd", "uun")
	mustTell(t, new(big.Rat), n, d, ok, "both")
	for k := range 3 {
		n, d, ok = impl.ChanceOfDay(h, "uun", k, "w")
		mustTell(t, big.NewRat(3, 4), n, d, ok, "wet", k)
	}
	text, ok := impl.LikeliestHidden(h, "uun")
	mustText(t, "www", text, ok, "likeliest")
	text, ok = impl.FirstPossible(h, "uun")
	mustText(t, "ddd", text, ok, "first")
	text, ok = impl.DayByDay(h, "uun")
	mustText(t, "www", text, ok, "day by day")
	possible, ok := impl.CountPossible(h, "uun")
	mustCount(t, 2, possible, ok, "possible")
	// As many signs of each kind make both kinds of days as likely, and the dry ones are first.
	text, ok = impl.LikeliestHidden(h, "unnuun")
	mustText(t, "dddddd", text, ok, "likeliest")
	text, ok = impl.DayByDay(h, "unnuun")
	mustText(t, "??????", text, ok, "day by day")
	n, d, ok = impl.ChanceOfNextSign(h, "unnuun", "u")
	mustTell(t, big.NewRat(1, 2), n, d, ok, "next")
	n, d, ok = impl.MeanSigns(h, 6)
	mustTell(t, big.NewRat(3, 1), n, d, ok, "mean")
	text, ok = impl.LikeliestSigns(h, 6)
	mustText(t, "nnnnnn", text, ok, "likeliest signs")
	sure := mustParseHidden(t, "0-0/10:0-10/10")
	mustCome(t, sure, "nu", new(big.Rat))
	n, d, ok = impl.ChanceOfSigns(sure, "nu")
	mustTell(t, new(big.Rat), n, d, ok, "signs")
	n, d, ok = impl.ChanceOfSigns(sure, "nnnnnn")
	mustTell(t, big.NewRat(1, 2), n, d, ok, "signs")
}

func TestOneHiddenDayAlone(t *testing.T) {
	chains := allChains()
	for _, umbrellas := range chains {
		// However the chain goes on, the first day is dry or wet with the same chance.
		for _, c := range []impl.Chain{{Of: 1}, {Wets: 3, Dries: 9, Of: 10}, {Wets: 5, Of: 5}} {
			h := hidden(c, umbrellas)
			n, d, ok := impl.MeanSigns(h, 1)
			mustTell(t, big.NewRat(int64(h.OnDry+h.OnWet), int64(2*h.Per)), n, d, ok, "mean", h)
			n, d, ok = impl.ChanceOfSigns(h, "u")
			mustTell(t, big.NewRat(int64(h.OnDry+h.OnWet), int64(2*h.Per)), n, d, ok, "signs", h)
			n, d, ok = impl.ChanceBoth(h, "w", "n")
			mustTell(t, big.NewRat(int64(h.Per-h.OnWet), int64(2*h.Per)), n, d, ok, "both", h)
			want := "n"
			if h.OnDry+h.OnWet > h.Per {
				want = "u"
			}
			text, ok := impl.LikeliestSigns(h, 1)
			mustText(t, want, text, ok, "likeliest signs", h)
			if h.OnDry+h.OnWet == 0 {
				mustCome(t, h, "u", new(big.Rat))
				continue
			}
			n, d, ok = impl.ChanceOfDay(h, "u", 0, "d")
			mustTell(t, big.NewRat(int64(h.OnDry), int64(h.OnDry+h.OnWet)), n, d, ok, "dry", h)
			text, ok = impl.LikeliestHidden(h, "u")
			if h.OnWet > h.OnDry {
				mustText(t, "w", text, ok, "likeliest", h)
			} else {
				mustText(t, "d", text, ok, "likeliest", h)
			}
		}
	}
}

// The likeliest days are others than those that are likelier one by one, and as many of them as there may be are told by the greatest numbers.
func TestDaysAloneAndTogether(t *testing.T) {
	h := mustParseHidden(t, "4-9/10:5-5/10")
	text, ok := impl.LikeliestHidden(h, "nnn")
	mustText(t, "wdd", text, ok, "likeliest")
	text, ok = impl.DayByDay(h, "nnn")
	mustText(t, "?dd", text, ok, "day by day")
	h = mustParseHidden(t, "5-10/10:6-5/10")
	text, ok = impl.LikeliestHidden(h, "uu")
	mustText(t, "wd", text, ok, "likeliest")
	text, ok = impl.DayByDay(h, "uu")
	mustText(t, "dd", text, ok, "day by day")
	h = mustParseHidden(t, "3-7/10:3-9/10")
	for _, signs := range []string{"nnnnnn", "uuuuuu", "nununu", "unnnnu"} {
		both := chancesOfBoth(h, signs)
		n, d, ok := impl.ChanceBoth(h, "wwwwww", signs)
		mustTell(t, both[63], n, d, ok, "both", signs)
		n, d, ok = impl.ChanceOfSigns(h, signs)
		mustTell(t, sumOf(both), n, d, ok, "signs", signs)
		for _, k := range []int{0, impl.MaxSigns - 1} {
			sum := new(big.Rat)
			for i, days := range textsOf(len(signs)) {
				if days[k] == 'd' {
					sum.Add(sum, both[i])
				}
			}
			n, d, ok = impl.ChanceOfDay(h, signs, k, "d")
			mustTell(t, sum.Quo(sum, sumOf(both)), n, d, ok, "day", signs, k)
		}
	}
}

func TestTurnedHiddenDays(t *testing.T) {
	other := map[string]string{"d": "w", "w": "d"}
	for _, h := range manyHidden() {
		turned, ok := impl.TurnHidden(h)
		want := impl.Hidden{Chain: impl.Chain{Wets: h.Chain.Dries, Dries: h.Chain.Wets, Of: h.Chain.Of}, OnDry: h.OnWet, OnWet: h.OnDry, Per: h.Per}
		if turned != want || !ok {
			t.Fatal("turn", h, turned, ok)
		}
		for _, signs := range []string{"n", "un", "nnuu", "unnnnu"} {
			n, d, _ := impl.ChanceOfSigns(h, signs)
			n2, d2, ok := impl.ChanceOfSigns(turned, signs)
			mustTell(t, big.NewRat(int64(n), int64(d)), n2, d2, ok, "signs turned", h, signs)
			if n == 0 {
				continue
			}
			for _, day := range kinds {
				n, d, _ = impl.ChanceOfDay(h, signs, len(signs)-1, day)
				n2, d2, ok = impl.ChanceOfDay(turned, signs, len(signs)-1, other[day])
				mustTell(t, big.NewRat(int64(n), int64(d)), n2, d2, ok, "day turned", h, signs, day)
			}
		}
	}
}

func TestAllHiddenDays(t *testing.T) {
	chains := allChains()
	var texts []string
	for _, c := range chains {
		text, _ := impl.ChainText(c)
		texts = append(texts, text)
	}
	for i, c := range chains {
		for k, umbrellas := range chains {
			h := hidden(c, umbrellas)
			if !impl.IsHidden(h) {
				t.Fatal("no hidden days", h)
			}
			text, ok := impl.HiddenText(h)
			mustText(t, texts[i]+":"+texts[k], text, ok, "text", h)
			if back, ok := impl.ParseHidden(text); back != h || !ok {
				t.Fatal("parse", text, back, ok)
			}
			tells, ok := impl.DoSignsTell(h)
			mustSay(t, h.OnDry != h.OnWet, tells, ok, "tell", h)
			turned, ok := impl.TurnHidden(h)
			if back, fine := impl.TurnHidden(turned); back != h || !ok || !fine {
				t.Fatal("turned twice", h, back)
			}
		}
	}
	for _, signs := range allSigns() {
		if !impl.AreSigns(signs) {
			t.Fatal("no signs", signs)
		}
	}
}

func TestTextsThatAreNoHiddenDays(t *testing.T) {
	var bad []string
	for _, part := range []string{
		"", "-", "-/", "1-2", "1/2", "1-2/", "-2/4", "1-/4", "1-2/4 ", " 1-2/4", "01-2/4", "1-02/4", "1-2/04", "+1-2/4", "-1-2/4", "1--2/4", "1-2/-4", "5-2/4", "1-5/4",
		"0-0/0", "1-2/11", "11-2/10", "1-2/4/4", "1-2/4\n", "1-2/4\x00", "１-2/4", "18446744073709551617-2/4", "1-2/4:", ":1-2/4", "1-2/4:1-2/4", strings.Repeat("1", 5000) + "-2/4",
	} {
		bad = append(bad, part, part+":1-2/4", "1-2/4:"+part, part+":"+part, "1-2/4;"+part)
	}
	bad = append(bad, "1-2/4", "1-2/4 1-2/4", "1-2/4::1-2/4", "1-2/4-1-2/4", "1-2/41-2/4", "1-1/2:0-1/2:", "1-1/2:0-1/2:0-1/2", "1-1/2:0-1:2", "1:1-2/4", "\xff:\xff", "::")
	bad = slices.DeleteFunc(bad, func(text string) bool { return text == "1-2/4:1-2/4" })
	for _, text := range bad {
		mustNotTell(t, impl.ParseHidden, text)
	}
	h := mustParseHidden(t, "1-2/4:1-2/4")
	if h != hidden(impl.Chain{Wets: 1, Dries: 2, Of: 4}, impl.Chain{Wets: 1, Dries: 2, Of: 4}) {
		t.Error("1-2/4:1-2/4 is", h)
	}
}
