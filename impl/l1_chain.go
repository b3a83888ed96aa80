package impl

import (
	"strconv"
	"strings"
)

const MaxOf = 10
const MaxDays = 8
const MaxSeen = 60

const (
	dry byte = 'd'
	wet byte = 'w'
)

const daysInOrder = "dw"

type Chain struct {
	Wets  int
	Dries int
	Of    int
}

func (c Chain) mixes() bool { return c.Wets >= 1 && c.Dries >= 1 }

// weather is a chain with the day that it has come to, so that two of them are
// the same only if they are the same day of the same chain.
type weather struct {
	Chain
	day byte
}

// changing is the numerator, Of being the denominator, as it is for staying.
func (w weather) changing() int {
	if w.day == dry {
		return w.Wets
	}
	return w.Dries
}

func (w weather) staying() int { return w.Of - w.changing() }

func (w weather) turned() weather {
	if w.day == dry {
		return weather{w.Chain, wet}
	}
	return weather{w.Chain, dry}
}

func (w weather) stepTo(next weather) int {
	step := weather.changing
	if w == next {
		step = weather.staying
	}
	return step(w)
}

// later is a numerator: the denominator is Of to the power of days.
func (w weather) later(goal weather, days int) int {
	other := goal.turned()
	here, there := 1, 0
	if w != goal {
		here, there = 0, 1
	}
	for range days {
		here, there = here*goal.staying()+there*other.changing(), here*goal.changing()+there*other.staying()
	}
	return here
}

// share is a numerator: the denominator is Wets and Dries together.
func (w weather) share() int { return w.turned().changing() }

// followed is a numerator: the denominator is Of to the power of the steps, of
// which there is one less than there are days.
func followed(c Chain, days string) int {
	part := 1
	for i := 1; i < len(days); i++ {
		part *= weather{c, days[i-1]}.stepTo(weather{c, days[i]})
	}
	return part
}

func isDay(t string) bool { return len(t) == 1 && AreDays(t) }

func isDayOf(c Chain, day string) bool { return IsChain(c) && isDay(day) }

func commonDivisor(a, b int) int {
	for b != 0 {
		a, b = b, a%b
	}
	return a
}

// lowestTerms needs a den of at least 1, or a num of at most 0 and a den below,
// as their common divisor is negative then, too. It makes 0 / den to 0 / 1.
func lowestTerms(num, den int) (int, int) {
	d := commonDivisor(num, den)
	return num / d, den / d
}

func told(num, den int) (int, int, bool) {
	num, den = lowestTerms(num, den)
	return num, den, true
}

func power(base, exponent int) int {
	p := 1
	for range exponent {
		p *= base
	}
	return p
}

// IsChain reports whether c, whose numbers may be any, is a chain.
func IsChain(c Chain) bool {
	return c.Of >= 1 && c.Of <= MaxOf && c.Wets >= 0 && c.Wets <= c.Of && c.Dries >= 0 && c.Dries <= c.Of
}

// AreDays reports whether a text are days.
func AreDays(days string) bool {
	if len(days) < 1 || len(days) > MaxSeen {
		return false
	}
	for i := range len(days) {
		if days[i] != dry && days[i] != wet {
			return false
		}
	}
	return true
}

// ChanceNext returns the chance that next follows a day.
func ChanceNext(c Chain, day string, next string) (int, int, bool) {
	if !isDayOf(c, day) || !isDay(next) {
		return 0, 0, false
	}
	return told(followed(c, day+next), c.Of)
}

// ChanceOfDays returns the chance that behind the first one of at most MaxDays + 1 days just the others follow.
func ChanceOfDays(c Chain, days string) (int, int, bool) {
	if !IsChain(c) || !AreDays(days) || len(days) > MaxDays+1 {
		return 0, 0, false
	}
	return told(followed(c, days), power(c.Of, len(days)-1))
}

// ChanceLater returns the chance that so many days, in 0..MaxDays, behind a day it is later.
func ChanceLater(c Chain, day string, later string, days int) (int, int, bool) {
	if !isDayOf(c, day) || !isDay(later) || days < 0 || days > MaxDays {
		return 0, 0, false
	}
	goal := weather{c, later[0]}
	return told(weather{c, day[0]}.later(goal, days), power(c.Of, days))
}

// LongShare returns the long share of such days as a day is. It fails if the chain does not mix.
func LongShare(c Chain, day string) (int, int, bool) {
	if !isDayOf(c, day) || !c.mixes() {
		return 0, 0, false
	}
	return told(weather{c, day[0]}.share(), c.Wets+c.Dries)
}

// ChanceOfAny returns the chance that at some time in the long run just these days, at most MaxDays, come:
// the long share of the first one times ChanceOfDays. It fails if the chain does not mix.
func ChanceOfAny(c Chain, days string) (int, int, bool) {
	if !IsChain(c) || !AreDays(days) || len(days) > MaxDays || !c.mixes() {
		return 0, 0, false
	}
	first := weather{c, days[0]}
	return told(first.share()*followed(c, days), (c.Wets+c.Dries)*power(c.Of, len(days)-1))
}

// MeanRun returns the mean number of days of a run of such days as a day is. It fails if such a run never ends.
func MeanRun(c Chain, day string) (int, int, bool) {
	if !isDayOf(c, day) {
		return 0, 0, false
	}
	ending := weather{c, day[0]}.changing()
	if ending == 0 {
		return 0, 0, false
	}
	return told(c.Of, ending)
}

// ChanceOfRun returns the chance that a run of such days is just long days long, in 1..MaxDays.
func ChanceOfRun(c Chain, day string, long int) (int, int, bool) {
	if !isDayOf(c, day) || long < 1 || long > MaxDays {
		return 0, 0, false
	}
	w := weather{c, day[0]}
	return told(power(w.staying(), long-1)*w.changing(), power(c.Of, long))
}

// MeanUntil returns the mean number of days behind a day until the first one like goal: at least 1, also if both
// are of one kind. It fails if with some chance none ever comes.
func MeanUntil(c Chain, day string, goal string) (int, int, bool) {
	if !isDayOf(c, day) || !isDay(goal) {
		return 0, 0, false
	}
	here, there := weather{c, day[0]}, weather{c, goal[0]}
	if here == there && here.changing() == 0 {
		return 1, 1, true // the way back is never needed, so that it may be closed
	}
	back := there.turned().changing()
	if back == 0 {
		return 0, 0, false
	}
	if here == there {
		return told(back+here.changing(), back)
	}
	return told(c.Of, back)
}

// MeanWets returns the mean number of wet days among the next days behind a day, in 0..MaxDays.
func MeanWets(c Chain, day string, days int) (int, int, bool) {
	if !isDayOf(c, day) || days < 0 || days > MaxDays {
		return 0, 0, false
	}
	here, rain := weather{c, day[0]}, weather{c, wet}
	sum := 0
	for k := range days {
		sum = sum*c.Of + here.later(rain, k+1)
	}
	return told(sum, power(c.Of, days))
}

// LikeliestDays returns the days, in 1..MaxDays, behind a day that follow with the greatest chance, the first one as a text of several.
func LikeliestDays(c Chain, day string, days int) (string, bool) {
	if !isDayOf(c, day) || days < 1 || days > MaxDays {
		return "", false
	}
	best, most := "", 0
	for rank := range 1 << days {
		text := textOfRank(rank, days, daysInOrder)
		if part := followed(c, day+text); part > most {
			best, most = text, part
		}
	}
	return best, true
}

// textOfRank tells a rank by two signs, as binary digits from the highest one on: greater ranks are later texts, as
// the first sign comes before the other one.
func textOfRank(rank, long int, inOrder string) string {
	text := make([]byte, long)
	for i := range text {
		text[i] = inOrder[rank>>(long-1-i)&1]
	}
	return string(text)
}

// RunsOf returns how long the runs of days are, in their order.
func RunsOf(days string) ([]int, bool) {
	if !AreDays(days) {
		return nil, false
	}
	var runs []int
	for i := range len(days) {
		if i == 0 || days[i] != days[i-1] {
			runs = append(runs, 0)
		}
		runs[len(runs)-1]++
	}
	return runs, true
}

// CountChanges returns how often a dry day follows a dry one, a wet one a dry one, a dry one a wet one, and a wet one a wet one.
func CountChanges(days string) ([]int, bool) {
	if !AreDays(days) {
		return nil, false
	}
	counts := make([]int, 4)
	for i := 1; i < len(days); i++ {
		k := 0
		if days[i-1] == wet {
			k = 2
		}
		if days[i] == wet {
			k++
		}
		counts[k]++
	}
	return counts, true
}

// ChainOfDays returns numerators and denominators of the shares of wet days among those that follow dry ones, and of dry days among those that follow wet ones, four numbers.
// It fails if no day follows a dry one, or none a wet one.
func ChainOfDays(days string) ([]int, bool) {
	counts, ok := CountChanges(days)
	if !ok {
		return nil, false
	}
	behindDry, behindWet := counts[0]+counts[1], counts[2]+counts[3]
	if behindDry == 0 || behindWet == 0 {
		return nil, false
	}
	wets, ofDry := lowestTerms(counts[1], behindDry)
	dries, ofWet := lowestTerms(counts[2], behindWet)
	return []int{wets, ofDry, dries, ofWet}, true
}

// TurnChain returns the chain in which dry and wet are exchanged.
func TurnChain(c Chain) (Chain, bool) {
	if !IsChain(c) {
		return Chain{}, false
	}
	return Chain{Wets: c.Dries, Dries: c.Wets, Of: c.Of}, true
}

// IsEven reports whether the chance of a wet day is the same behind a dry day and behind a wet one.
func IsEven(c Chain) (bool, bool) {
	if !IsChain(c) {
		return false, false
	}
	return weather{c, dry}.changing() == weather{c, wet}.staying(), true
}

// ChainText returns Wets, -, Dries, / and Of.
func ChainText(c Chain) (string, bool) {
	if !IsChain(c) {
		return "", false
	}
	return strconv.Itoa(c.Wets) + "-" + strconv.Itoa(c.Dries) + "/" + strconv.Itoa(c.Of), true
}

// ParseChain returns the chain with a ChainText. It fails if there is none.
func ParseChain(t string) (Chain, bool) {
	wets, rest, _ := strings.Cut(t, "-")
	dries, of, _ := strings.Cut(rest, "/")
	c := Chain{Wets: numberIn(wets), Dries: numberIn(dries), Of: numberIn(of)}
	// Signs and superfluous zeros are read as numbers, too, but not written so.
	if text, ok := ChainText(c); !ok || text != t {
		return Chain{}, false
	}
	return c, true
}

// numberIn is -1 for a text without a number: nothing that is told by a text is negative.
func numberIn(t string) int {
	n, err := strconv.Atoi(t)
	if err != nil {
		return -1
	}
	return n
}
