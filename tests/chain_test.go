package tests

import (
	"math/big"
	"slices"
	"strconv"
	"strings"
	"testing"

	"loop.example/g01337/impl"
)

// The tests of promise 1: chances of days are products of those of each day, and long shares stay.

var kinds = []string{"d", "w"}

func allChains() []impl.Chain {
	var list []impl.Chain
	for of := 1; of <= impl.MaxOf; of++ {
		for wets := 0; wets <= of; wets++ {
			for dries := 0; dries <= of; dries++ {
				list = append(list, impl.Chain{Wets: wets, Dries: dries, Of: of})
			}
		}
	}
	return list
}

// textsOf lists all texts of d and w of one length, in order.
func textsOf(long int) []string {
	list := []string{""}
	for range long {
		var longer []string
		for _, t := range list {
			longer = append(longer, t+"d", t+"w")
		}
		list = longer
	}
	return list
}

// step is the chance as the document tells it, without the program.
func step(c impl.Chain, from, to byte) *big.Rat {
	switch string([]byte{from, to}) {
	case "dw":
		return big.NewRat(int64(c.Wets), int64(c.Of))
	case "dd":
		return big.NewRat(int64(c.Of-c.Wets), int64(c.Of))
	case "wd":
		return big.NewRat(int64(c.Dries), int64(c.Of))
	}
	return big.NewRat(int64(c.Of-c.Dries), int64(c.Of))
}

func product(c impl.Chain, days string) *big.Rat {
	p := big.NewRat(1, 1)
	for i := 1; i < len(days); i++ {
		p.Mul(p, step(c, days[i-1], days[i]))
	}
	return p
}

// mustTell asks for the fraction in lowest terms, 0 as 0 and 1: a big.Rat keeps it so.
func mustTell(t *testing.T, want *big.Rat, num, den int, ok bool, what ...any) {
	t.Helper()
	if !ok || want.Num().Cmp(big.NewInt(int64(num))) != 0 || want.Denom().Cmp(big.NewInt(int64(den))) != 0 {
		t.Fatal(what, "is", num, den, ok, "and not", want)
	}
}

func mustFail(t *testing.T, num, den int, ok bool, what ...any) {
	t.Helper()
	if num != 0 || den != 0 || ok {
		t.Fatal(what, "is", num, den, ok, "and does not fail")
	}
}

func mustParse(t *testing.T, text string) impl.Chain {
	t.Helper()
	c, ok := impl.ParseChain(text)
	if !ok {
		t.Fatal("no chain", text)
	}
	return c
}

func TestExamplesOfChapter1(t *testing.T) {
	c := mustParse(t, "1-2/4")
	if c != (impl.Chain{Wets: 1, Dries: 2, Of: 4}) {
		t.Fatal("1-2/4 is", c)
	}
	n, d, ok := impl.ChanceNext(c, "d", "w")
	mustTell(t, big.NewRat(1, 4), n, d, ok, "next d w")
	n, d, ok = impl.ChanceNext(c, "w", "w")
	mustTell(t, big.NewRat(1, 2), n, d, ok, "next w w")
	n, d, ok = impl.ChanceOfDays(c, "ddw")
	mustTell(t, big.NewRat(3, 16), n, d, ok, "days ddw")
	n, d, ok = impl.ChanceLater(c, "d", "w", 2)
	mustTell(t, big.NewRat(5, 16), n, d, ok, "later d w 2")
	n, d, ok = impl.LongShare(c, "d")
	mustTell(t, big.NewRat(2, 3), n, d, ok, "share d")
	n, d, ok = impl.MeanRun(c, "w")
	mustTell(t, big.NewRat(2, 1), n, d, ok, "run w")
	n, d, ok = impl.MeanUntil(c, "w", "w")
	mustTell(t, big.NewRat(3, 1), n, d, ok, "until w w")
	if s, ok := impl.LikeliestDays(c, "w", 2); s != "dd" || !ok {
		t.Error("likely w 2", s, ok)
	}
	if r, ok := impl.RunsOf("ddwwwd"); !slices.Equal(r, []int{2, 3, 1}) || !ok {
		t.Error("runs", r, ok)
	}
	if r, ok := impl.CountChanges("ddwwwd"); !slices.Equal(r, []int{1, 1, 1, 2}) || !ok {
		t.Error("changes", r, ok)
	}
}

func TestPromise1ChancesOfDaysAreProducts(t *testing.T) {
	for _, c := range allChains() {
		for long := 1; long <= impl.MaxDays+1; long++ {
			for _, days := range textsOf(long) {
				n, d, ok := impl.ChanceOfDays(c, days)
				mustTell(t, product(c, days), n, d, ok, "days", c, days)
				if long == 2 {
					n, d, ok = impl.ChanceNext(c, days[:1], days[1:])
					mustTell(t, product(c, days), n, d, ok, "next", c, days)
				}
			}
		}
	}
}

func TestPromise1ChancesLaterAddUpOverTheDaysBetween(t *testing.T) {
	for _, c := range allChains() {
		for _, day := range kinds {
			for days := 0; days <= impl.MaxDays; days++ {
				sums := map[byte]*big.Rat{'d': new(big.Rat), 'w': new(big.Rat)}
				for _, text := range textsOf(days) {
					sum := sums[(day + text)[days]]
					sum.Add(sum, product(c, day+text))
				}
				for _, later := range kinds {
					n, d, ok := impl.ChanceLater(c, day, later, days)
					mustTell(t, sums[later[0]], n, d, ok, "later", c, day, later, days)
				}
			}
		}
	}
}

func TestPromise1LongSharesStay(t *testing.T) {
	for _, c := range allChains() {
		for _, day := range kinds {
			n, d, ok := impl.LongShare(c, day)
			if c.Wets == 0 || c.Dries == 0 {
				mustFail(t, n, d, ok, "share", c, day)
				continue
			}
			share := big.NewRat(int64(c.Wets), int64(c.Wets+c.Dries))
			if day == "d" {
				share.Sub(big.NewRat(1, 1), share)
			}
			mustTell(t, share, n, d, ok, "share", c, day)
			dn, dd, _ := impl.LongShare(c, "d")
			wn, wd, _ := impl.LongShare(c, "w")
			fromDry, fromWet := step(c, 'd', day[0]), step(c, 'w', day[0])
			fromDry.Mul(fromDry, big.NewRat(int64(dn), int64(dd)))
			fromWet.Mul(fromWet, big.NewRat(int64(wn), int64(wd)))
			mustTell(t, fromDry.Add(fromDry, fromWet), n, d, ok, "share a day later", c, day)
		}
	}
}

func TestPromise1ChanceOfAnyIsLongShareTimesProduct(t *testing.T) {
	for _, c := range allChains() {
		for long := 1; long <= impl.MaxDays; long++ {
			for _, days := range textsOf(long) {
				n, d, ok := impl.ChanceOfAny(c, days)
				if c.Wets == 0 || c.Dries == 0 {
					mustFail(t, n, d, ok, "ever", c, days)
					continue
				}
				share := big.NewRat(int64(c.Dries), int64(c.Wets+c.Dries))
				if days[0] == 'w' {
					share.Sub(big.NewRat(1, 1), share)
				}
				mustTell(t, share.Mul(share, product(c, days)), n, d, ok, "ever", c, days)
			}
		}
	}
}

func TestRuns(t *testing.T) {
	other := map[string]string{"d": "w", "w": "d"}
	for _, c := range allChains() {
		for _, day := range kinds {
			ends := step(c, day[0], other[day][0])
			n, d, ok := impl.MeanRun(c, day)
			if ends.Sign() == 0 {
				mustFail(t, n, d, ok, "run", c, day)
			} else {
				mustTell(t, ends.Inv(ends), n, d, ok, "run", c, day)
			}
			for long := 1; long <= impl.MaxDays; long++ {
				n, d, ok = impl.ChanceOfRun(c, day, long)
				mustTell(t, product(c, strings.Repeat(day, long)+other[day]), n, d, ok, "run", c, day, long)
			}
		}
	}
}

// The mean until a goal is 1 and that from each other day, as likely as this one follows: a goal is at its end.
func TestMeanUntilIsThatOfTheFirstStep(t *testing.T) {
	other := map[string]string{"d": "w", "w": "d"}
	for _, c := range allChains() {
		for _, goal := range kinds {
			away := other[goal]
			leaves, comes := step(c, goal[0], away[0]), step(c, away[0], goal[0])
			n, d, ok := impl.MeanUntil(c, away, goal)
			n2, d2, ok2 := impl.MeanUntil(c, goal, goal)
			if comes.Sign() == 0 {
				mustFail(t, n, d, ok, "until", c, away, goal)
				if leaves.Sign() == 0 {
					mustTell(t, big.NewRat(1, 1), n2, d2, ok2, "until", c, goal, goal)
				} else {
					mustFail(t, n2, d2, ok2, "until", c, goal, goal)
				}
				continue
			}
			mean := new(big.Rat).Inv(comes)
			mustTell(t, mean, n, d, ok, "until", c, away, goal)
			mean.Mul(mean, leaves)
			mustTell(t, mean.Add(mean, big.NewRat(1, 1)), n2, d2, ok2, "until", c, goal, goal)
		}
	}
}

func TestMeanWetsCountsTheWetDaysOfAllTexts(t *testing.T) {
	for _, c := range allChains() {
		for _, day := range kinds {
			for days := 0; days <= impl.MaxDays; days++ {
				mean := new(big.Rat)
				for _, text := range textsOf(days) {
					wets := big.NewRat(int64(strings.Count(text, "w")), 1)
					mean.Add(mean, wets.Mul(wets, product(c, day+text)))
				}
				n, d, ok := impl.MeanWets(c, day, days)
				mustTell(t, mean, n, d, ok, "wets", c, day, days)
			}
		}
	}
}

func TestLikeliestDaysAreTheFirstOnesOfGreatestChance(t *testing.T) {
	for _, c := range allChains() {
		for _, day := range kinds {
			for days := 1; days <= impl.MaxDays; days++ {
				want, most := "", new(big.Rat)
				for _, text := range textsOf(days) {
					if p := product(c, day+text); p.Cmp(most) > 0 {
						want, most = text, p
					}
				}
				if got, ok := impl.LikeliestDays(c, day, days); got != want || !ok {
					t.Fatal("likely", c, day, days, "is", got, ok, "and not", want)
				}
			}
		}
	}
}

func TestDaysThatWere(t *testing.T) {
	texts := []string{strings.Repeat("d", impl.MaxSeen), strings.Repeat("w", impl.MaxSeen), strings.Repeat("dw", impl.MaxSeen/2)}
	for long := 1; long <= 9; long++ {
		texts = append(texts, textsOf(long)...)
	}
	for _, days := range texts {
		if !impl.AreDays(days) {
			t.Fatal("no days", days)
		}
		runs, ok := impl.RunsOf(days)
		if want := runsByCutting(days); !slices.Equal(runs, want) || !ok {
			t.Fatal("runs", days, "are", runs, ok, "and not", want)
		}
		want := []int{0, 0, 0, 0}
		for i := 1; i < len(days); i++ {
			want[strings.Index("dd dw wd ww", days[i-1:i+1])/3]++
		}
		counts, ok := impl.CountChanges(days)
		if !slices.Equal(counts, want) || !ok {
			t.Fatal("changes", days, "are", counts, ok, "and not", want)
		}
		got, ok := impl.ChainOfDays(days)
		if want[0]+want[1] == 0 || want[2]+want[3] == 0 {
			if len(got) != 0 || ok {
				t.Fatal("chain of", days, "is", got, ok)
			}
			continue
		}
		if len(got) != 4 {
			t.Fatal("chain of", days, "is", got, ok)
		}
		mustTell(t, big.NewRat(int64(want[1]), int64(want[0]+want[1])), got[0], got[1], ok, "wets of", days)
		mustTell(t, big.NewRat(int64(want[2]), int64(want[2]+want[3])), got[2], got[3], ok, "dries of", days)
	}
}

func runsByCutting(days string) []int {
	var runs []int
	cut := strings.ReplaceAll(strings.ReplaceAll(days, "dw", "d w"), "wd", "w d")
	for _, run := range strings.Fields(cut) {
		runs = append(runs, len(run))
	}
	return runs
}

func TestAllDaysDry(t *testing.T) {
	c := impl.Chain{Wets: 0, Dries: 3, Of: 5}
	n, d, ok := impl.ChanceOfDays(c, strings.Repeat("d", 9))
	mustTell(t, big.NewRat(1, 1), n, d, ok, "nine dry days")
	n, d, ok = impl.MeanWets(c, "d", 8)
	mustTell(t, new(big.Rat), n, d, ok, "wets")
	n, d, ok = impl.MeanUntil(c, "d", "d")
	mustTell(t, big.NewRat(1, 1), n, d, ok, "until d d")
	n, d, ok = impl.MeanUntil(c, "w", "w")
	mustFail(t, n, d, ok, "until w w")
	n, d, ok = impl.ChanceOfRun(c, "d", 1)
	mustTell(t, new(big.Rat), n, d, ok, "run d 1")
	all := strings.Repeat("d", 60)
	if r, ok := impl.RunsOf(all); !slices.Equal(r, []int{60}) || !ok {
		t.Error("runs", r, ok)
	}
	if r, ok := impl.CountChanges(all); !slices.Equal(r, []int{59, 0, 0, 0}) || !ok {
		t.Error("changes", r, ok)
	}
	if r, ok := impl.ChainOfDays(all); len(r) != 0 || ok {
		t.Error("chain", r, ok)
	}
	if s, ok := impl.LikeliestDays(c, "d", 8); s != "dddddddd" || !ok {
		t.Error("likely", s, ok)
	}
}

func TestTurnedAndEvenChains(t *testing.T) {
	for _, c := range allChains() {
		if turned, ok := impl.TurnChain(c); turned != (impl.Chain{Wets: c.Dries, Dries: c.Wets, Of: c.Of}) || !ok {
			t.Fatal("turn", c, turned, ok)
		}
		if even, ok := impl.IsEven(c); even != (step(c, 'd', 'w').Cmp(step(c, 'w', 'w')) == 0) || !ok {
			t.Fatal("even", c, even, ok)
		}
	}
}

func TestTextsOfChains(t *testing.T) {
	for _, c := range allChains() {
		want := strconv.Itoa(c.Wets) + "-" + strconv.Itoa(c.Dries) + "/" + strconv.Itoa(c.Of)
		if s, ok := impl.ChainText(c); s != want || !ok {
			t.Fatal("text", c, s, ok)
		}
		if back, ok := impl.ParseChain(want); back != c || !ok {
			t.Fatal("parse", want, back, ok)
		}
	}
	for _, s := range []string{
		"", "-", "-/", "1-2", "1/2", "1-2/", "-2/4", "1-/4", "1-2/4 ", " 1-2/4", "1 - 2/4", "01-2/4", "1-02/4", "1-2/04",
		"+1-2/4", "1-+2/4", "1-2/+4", "-1-2/4", "1--2/4", "1-2/-4", "1-2/4/4", "1-2-2/4", "5-2/4", "1-5/4", "0-0/0",
		"1-2/11", "11-2/10", "0x1-2/4", "1_0-2/10", "1-2/4\n", "1-2/4\x00", "a-b/c", "00-0/1", "-0-0/1", "1/2-4",
		"1-2/99999999999999999999", "18446744073709551617-2/4", "１-2/4", "1-2/4,1-2/4", strings.Repeat("1", 5000) + "-2/4",
	} {
		if c, ok := impl.ParseChain(s); c != (impl.Chain{}) || ok {
			t.Errorf("%q is parsed as %v, %v", s, c, ok)
		}
	}
}
