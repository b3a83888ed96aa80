package tests

import (
	"fmt"
	"reflect"
	"regexp"
	"slices"
	"strconv"
	"strings"
	"sync"
	"testing"

	"loop.example/g01337/impl"
)

// The tests of promise 10: scripts do what the calls do that they name.

// asked is a line of the document's table: the kinds of its words, the part of the desk that comes before them in the
// call, if one does, the call, and what comes behind them.
type asked struct {
	kinds string
	of    string
	call  any
	last  []any
}

func same[T any](t T) (T, bool) { return t, true }

// table is that of the document.
var table = map[string]asked{
	"chain": {kinds: "C", call: same[impl.Chain]}, "coin": {kinds: "F", call: same[impl.Coin]}, "hidden": {kinds: "H", call: same[impl.Hidden]},
	"turn": {of: "Chain", call: impl.TurnChain}, "swap": {of: "Hidden", call: impl.TurnHidden},
	"show": {of: "Chain", call: impl.ChainText}, "toss": {of: "Coin", call: impl.CoinText}, "tell": {of: "Hidden", call: impl.HiddenText},
	"days": {kinds: "D", of: "Chain", call: impl.ChanceOfDays}, "ever": {kinds: "D", of: "Chain", call: impl.ChanceOfAny},
	"later": {kinds: "ABN", of: "Chain", call: impl.ChanceLater}, "until": {kinds: "AB", of: "Chain", call: impl.MeanUntil},
	"share": {kinds: "A", of: "Chain", call: impl.LongShare}, "run": {kinds: "A", of: "Chain", call: impl.MeanRun},
	"likely": {kinds: "AN", of: "Chain", call: impl.LikeliestDays}, "changes": {kinds: "D", call: impl.CountChanges},
	"wait": {kinds: "P", of: "Coin", call: impl.MeanWait}, "between": {kinds: "P", of: "Coin", call: impl.MeanBetween},
	"laps": {kinds: "P", call: impl.OverlapsOf}, "without": {kinds: "PN", call: impl.CountWithout},
	"by": {kinds: "PN", of: "Coin", call: impl.ChanceBy}, "places": {kinds: "PT", call: impl.PlacesOf},
	"fair": {kinds: "T", call: impl.FairByPairs}, "again": {kinds: "T", call: impl.FairAgain},
	"roll": {kinds: "NT", call: impl.RollsOf}, "keep": {kinds: "NT", call: impl.RollsKeeping},
	"mean": {kinds: "N", call: impl.MeanForRoll}, "kept": {kinds: "N", call: impl.MeanKeeping},
	"unfair": {kinds: "T", of: "Coin", call: impl.UnfairTosses}, "signs": {kinds: "G", of: "Hidden", call: impl.ChanceOfSigns},
	"guess": {kinds: "G", of: "Hidden", call: impl.LikeliestHidden}, "each": {kinds: "G", of: "Hidden", call: impl.DayByDay},
	"next": {kinds: "G", of: "Hidden", call: impl.ChanceOfNextSign, last: []any{"u"}},
}

func chainText(c impl.Chain) string { return fmt.Sprintf("%d-%d/%d", c.Wets, c.Dries, c.Of) }

func coinText(c impl.Coin) string { return fmt.Sprintf("%d/%d", c.Heads, c.Of) }

func hiddenText(h impl.Hidden) string {
	return fmt.Sprintf("%s:%d-%d/%d", chainText(h.Chain), h.OnDry, h.OnWet, h.Per)
}

// chainsByText and coinsByText are all, found without reading a text.
var chainsByText = sync.OnceValue(func() map[string]impl.Chain {
	texts := map[string]impl.Chain{}
	for _, c := range allChains() {
		texts[chainText(c)] = c
	}
	return texts
})

var coinsByText = sync.OnceValue(func() map[string]impl.Coin {
	texts := map[string]impl.Coin{}
	for _, c := range allCoins() {
		texts[coinText(c)] = c
	}
	return texts
})

var textOfKind = map[rune]*regexp.Regexp{
	'N': regexp.MustCompile(`^(0|[1-9][0-9]{0,5})$`), 'D': regexp.MustCompile(`^[dw]{1,60}$`), 'A': regexp.MustCompile(`^[dw]$`), 'B': regexp.MustCompile(`^[dw]$`),
	'P': regexp.MustCompile(`^[ht]{1,8}$`), 'T': regexp.MustCompile(`^[ht]{0,200}$`), 'G': regexp.MustCompile(`^[un]{1,6}$`),
}

// meantBy is what a word of a kind tells, and nil if it is none.
func meantBy(kind rune, word string) any {
	switch kind {
	case 'C':
		if c, ok := chainsByText()[word]; ok {
			return c
		}
	case 'F':
		if c, ok := coinsByText()[word]; ok {
			return c
		}
	case 'H':
		if i := strings.Index(word, ":"); i >= 0 {
			c, ok := chainsByText()[word[:i]]
			umbrellas, fine := chainsByText()[word[i+1:]]
			if ok && fine {
				return hidden(c, umbrellas)
			}
		}
	default:
		if !textOfKind[kind].MatchString(word) {
			return nil
		}
		if n, err := strconv.Atoi(word); kind == 'N' && err == nil {
			return n
		}
		return word
	}
	return nil
}

func wordsOfLine(line string) []string {
	words := []string{""}
	for i := range len(line) {
		if line[i] == ' ' {
			words = append(words, "")
		} else {
			words[len(words)-1] += line[i : i+1]
		}
	}
	return words
}

// argumentsOf are those of the call that a line names, and nil if it is none of the table.
func argumentsOf(d impl.Desk, line string) (asked, []reflect.Value) {
	words := wordsOfLine(line)
	a, known := table[words[0]]
	if !known || len(words)-1 != len(a.kinds) {
		return a, nil
	}
	in := []reflect.Value{}
	if a.of != "" {
		in = append(in, reflect.ValueOf(d).FieldByName(a.of))
	}
	for i, kind := range a.kinds {
		meant := meantBy(kind, words[i+1])
		if meant == nil {
			return a, nil
		}
		in = append(in, reflect.ValueOf(meant))
	}
	for _, v := range a.last {
		in = append(in, reflect.ValueOf(v))
	}
	return a, in
}

// byCall is what a line does and replies, by the call that it names.
func byCall(d impl.Desk, line string) (impl.Desk, string) {
	a, in := argumentsOf(d, line)
	if in == nil {
		return d, "what"
	}
	out := reflect.ValueOf(a.call).Call(in)
	if !out[len(out)-1].Bool() {
		return d, "no"
	}
	reply := ""
	switch x := out[0].Interface().(type) {
	case impl.Chain:
		d.Chain, reply = x, chainText(x)
	case impl.Coin:
		d.Coin, reply = x, coinText(x)
	case impl.Hidden:
		d.Hidden, reply = x, hiddenText(x)
	case string:
		reply = x
	case []int:
		reply = strings.Trim(strings.ReplaceAll(fmt.Sprint(x), " ", ","), "[]")
	case int:
		reply = fmt.Sprint(x)
		if len(out) == 3 {
			reply += fmt.Sprint("/", out[1].Int())
		}
	}
	if reply == "" {
		reply = "-"
	}
	return d, reply
}

func desk(t *testing.T, chain, coin, hiddenDays string) impl.Desk {
	t.Helper()
	c, ok := impl.ParseCoin(coin)
	if !ok {
		t.Fatal("no coin", coin)
	}
	return impl.Desk{Chain: mustParse(t, chain), Coin: c, Hidden: mustParseHidden(t, hiddenDays)}
}

// namedDesks have chains that mix, never change, end, or always change, unfair coins, and signs that tell nothing, all, or
// cannot come.
func namedDesks(t *testing.T) []impl.Desk {
	t.Helper()
	return []impl.Desk{
		desk(t, "1-2/4", "1/2", "1-1/2:0-1/2"), desk(t, "0-0/3", "1/3", "1-2/4:3-3/7"), desk(t, "0-2/4", "9/10", "0-0/1:0-0/1"), desk(t, "10-0/10", "1/10", "0-0/3:0-10/10"),
		desk(t, "1-1/1", "5/10", "1-1/1:1-1/1"), desk(t, "3-7/9", "4/7", "9-1/10:1-9/10"), desk(t, "10-10/10", "2/3", "2-5/7:0-0/4"), desk(t, "4-1/5", "3/8", "0-3/5:7-2/9"),
	}
}

func mustReply(t *testing.T, d, behind impl.Desk, line, reply string) {
	t.Helper()
	if got, said, ok := impl.DeskLine(d, line); !ok || got != behind || said != reply {
		t.Fatalf("%.100q on %v is %v, %q, %v and not %v, %q", line, d, got, said, ok, behind, reply)
	}
}

func mustDoAsCalled(t *testing.T, d impl.Desk, line string) string {
	t.Helper()
	behind, reply := byCall(d, line)
	mustReply(t, d, behind, line, reply)
	return reply
}

func TestExamplesOfChapter10(t *testing.T) {
	lines := []string{
		"days ddw", "later d w 2", "share d", "run w", "until w w", "likely w 2", "changes ddwwwd", "turn", "share d", "wait hth", "laps hth", "without hh 4", "by hh 3",
		"places hh hhhth", "coin 1/3", "wait ht", "unfair tt", "fair hthhth", "again hthhth", "roll 6 hhthtt", "kept 6", "signs u", "guess nu", "next nu",
		"chain 0-2/4", "share d", "roll 1 h", "fly",
	}
	replies := []string{
		"3/16", "5/16", "2/3", "2/1", "3/1", "dd", "1,1,1,2", "2-1/4", "1/3", "10/1", "1", "8", "3/8",
		"2,3", "1/3", "9/2", "h", "ht", "hth", "5", "11/3", "1/4", "dw", "1/4",
		"0-2/4", "no", "no", "what",
	}
	script := strings.Join(lines, "\n") + "\n"
	got, ok := impl.RunScript(script)
	mustTexts(t, replies, got, ok, "replies")
	failed, ok := impl.FailedLines(script)
	mustList(t, []int{26, 27, 28}, failed, ok, "failed")
	behind, ok := impl.DeskAfter(script)
	if want := desk(t, "0-2/4", "1/3", "1-1/2:0-1/2"); !ok || behind != want {
		t.Fatal("behind", behind, ok)
	}
	d := impl.FirstDesk()
	if d != desk(t, "1-2/4", "1/2", "1-1/2:0-1/2") {
		t.Fatal("first", d)
	}
	for i, line := range lines {
		next, reply, ok := impl.DeskLine(d, line)
		mustText(t, replies[i], reply, ok, line)
		d = next
	}
	if d != behind {
		t.Fatal("behind", d)
	}
}

// Each line of the table, with replies found by hand.
func TestLinesOfTheTable(t *testing.T) {
	first := impl.FirstDesk()
	for line, reply := range map[string]string{
		"show": "1-2/4", "toss": "1/2", "tell": "1-1/2:0-1/2",
		"days ddw": "3/16", "days d": "1/1", "days w": "1/1", "days dw": "1/4", "days ww": "1/2", "days ddddddddd": "6561/65536", "days dddddddddd": "no",
		"ever ddw": "1/8", "ever d": "2/3", "ever w": "1/3", "ever dw": "1/6", "ever wwwwwwww": "1/384", "ever wwwwwwwww": "no",
		"later d w 2": "5/16", "later d w 0": "0/1", "later d d 0": "1/1", "later d w 1": "1/4", "later w d 1": "1/2", "later d w 9": "no", "later d w 999999": "no",
		"until w w": "3/1", "until d w": "4/1", "until w d": "2/1", "until d d": "3/2", "share d": "2/3", "share w": "1/3", "run d": "4/1", "run w": "2/1",
		"likely w 2": "dd", "likely d 3": "ddd", "likely w 1": "d", "likely d 8": "dddddddd", "likely d 0": "no", "likely d 9": "no",
		"changes ddwwwd": "1,1,1,2", "changes d": "0,0,0,0", "changes dw": "0,1,0,0",
		"wait hth": "10/1", "wait htt": "8/1", "wait hhh": "14/1", "wait h": "2/1", "wait hhhhhhhh": "510/1", "between hth": "8/1", "between hhhhhhhh": "256/1",
		"laps hth": "1", "laps htt": "-", "laps hhh": "1,2", "laps h": "-", "laps tttttttt": "1,2,3,4,5,6,7", "laps hthththt": "2,4,6",
		"without hh 4": "8", "without h 0": "1", "without h 40": "1", "without ht 40": "41", "without h 41": "no", "without h 999999": "no",
		"by hh 3": "3/8", "by hh 0": "0/1", "by h 8": "255/256", "by h 9": "no",
		"places hh hhhth": "2,3", "places hh ": "-", "places hh ht": "-", "places hh hhhh": "2,3,4", "places hth hththth": "3,5,7", "places h hhhhhhhhhhhhhhhhhhhhhhhhhhhhhhhhhhhhhhhhh": "no",
		"fair hthhth": "ht", "fair ": "-", "fair h": "-", "fair hhtt": "-", "fair th": "t", "again hthhth": "hth", "again ": "-", "again hh": "-", "again hhtt": "h",
		"roll 6 hhthtt": "5", "roll 6 ": "-", "roll 6 hhthtth": "5", "roll 2 ht": "2,1", "roll 12 hhhhtttt": "1", "roll 4 hhtt": "4,1", "roll 1 h": "no", "roll 1 ": "no", "roll 0 h": "no", "roll 13 h": "no",
		"keep 6 hhthtt": "3", "keep 6 ": "-", "keep 2 ht": "2,1", "keep 3 hhh": "-", "keep 3 ht": "3", "keep 1 h": "no", "keep 0 h": "no", "keep 13 ": "no",
		"mean 6": "4/1", "mean 1": "0/1", "mean 3": "8/3", "mean 12": "16/3", "mean 0": "no", "mean 13": "no", "mean 999999": "no",
		"kept 6": "11/3", "kept 1": "0/1", "kept 3": "8/3", "kept 4": "2/1", "kept 0": "no", "kept 13": "no",
		"unfair ht": "th", "unfair ": "-", "unfair tt": "hh",
		"signs u": "1/4", "signs n": "3/4", "signs un": "3/16", "guess nu": "dw", "guess n": "d", "guess u": "w", "each nu": "dw", "each n": "d", "next nu": "1/4", "next uuuuuu": "1/4",
	} {
		mustReply(t, first, first, line, reply)
		got, ok := impl.RunScript(line + "\n")
		mustTexts(t, []string{reply}, got, ok, line)
	}
	hiddenDays := "1-1/2:0-1/2"
	for line, behind := range map[string]impl.Desk{
		"chain 3-1/7": desk(t, "3-1/7", "1/2", hiddenDays), "chain 0-10/10": desk(t, "0-10/10", "1/2", hiddenDays), "turn": desk(t, "2-1/4", "1/2", hiddenDays),
		"coin 3/7": desk(t, "1-2/4", "3/7", hiddenDays), "coin 9/10": desk(t, "1-2/4", "9/10", hiddenDays),
		"hidden 2-1/3:1-0/4": desk(t, "1-2/4", "1/2", "2-1/3:1-0/4"), "swap": desk(t, "1-2/4", "1/2", "1-1/2:1-0/2"),
	} {
		reply := chainText(behind.Chain)
		switch line[:2] {
		case "co":
			reply = coinText(behind.Coin)
		case "hi", "sw":
			reply = hiddenText(behind.Hidden)
		}
		mustReply(t, first, behind, line, reply)
		d, ok := impl.DeskAfter(line + "\n")
		if !ok || d != behind {
			t.Fatal(line, "leaves", d, ok)
		}
	}
}

func TestDesksByName(t *testing.T) {
	for _, x := range []struct {
		chain, coin, hidden string
		replies             map[string]string
	}{
		{"0-0/3", "1/2", "1-1/2:0-1/2", map[string]string{
			"days ddd": "1/1", "days ddw": "0/1", "ever d": "no", "share w": "no", "run d": "no", "run w": "no", "until d d": "1/1", "until d w": "no", "until w w": "1/1",
			"later d d 8": "1/1", "later d w 8": "0/1", "likely d 3": "ddd", "likely w 3": "www", "turn": "0-0/3", "show": "0-0/3",
		}},
		{"1-0/1", "1/2", "1-1/2:0-1/2", map[string]string{
			"share d": "no", "ever ddd": "no", "run d": "1/1", "run w": "no", "until d w": "1/1", "until w w": "1/1", "until d d": "no", "until w d": "no", "likely d 2": "ww",
		}},
		{"1-1/1", "1/3", "1-1/2:0-1/2", map[string]string{
			"share d": "1/2", "run d": "1/1", "until d d": "2/1", "likely d 3": "wdw", "days dwdwdwdwd": "1/1", "ever dd": "0/1",
			"wait ht": "9/2", "wait hh": "12/1", "between hh": "9/1", "by h 1": "1/3", "by hh 2": "1/9", "unfair tt": "h", "unfair h": "t", "unfair t": "-", "unfair th": "-", "unfair hthh": "tt",
		}},
		{"1-2/4", "1/2", "1-1/2:1-1/2", map[string]string{
			"signs unun": "1/16", "guess un": "dd", "each un": "??", "next un": "1/2", "swap": "1-1/2:1-1/2",
		}},
		{"1-2/4", "1/2", "1-1/2:1-1/1", map[string]string{
			"signs u": "1/1", "signs n": "0/1", "signs un": "0/1", "guess u": "d", "guess un": "no", "each n": "no", "next n": "no", "next u": "1/1", "each uuuuuu": "??????",
		}},
		{"1-2/4", "1/2", "0-0/5:0-1/1", map[string]string{
			"signs un": "0/1", "guess un": "no", "each un": "no", "next un": "no", "signs uu": "1/2", "guess uu": "ww", "next uu": "1/1", "next nn": "0/1", "swap": "0-0/5:1-0/1",
		}},
	} {
		d := desk(t, x.chain, x.coin, x.hidden)
		for line, reply := range x.replies {
			_, got, ok := impl.DeskLine(d, line)
			mustText(t, reply, got, ok, line, d)
			script := fmt.Sprintf("chain %s\ncoin %s\nhidden %s\n%s\n", x.chain, x.coin, x.hidden, line)
			replies, ok := impl.RunScript(script)
			mustTexts(t, []string{x.chain, x.coin, x.hidden, reply}, replies, ok, script)
		}
	}
}

// wordsOfKind are some of each kind, and some words that are none.
func wordsOfKind(kind rune) []string {
	switch kind {
	case 'N':
		return []string{
			"0", "1", "2", "3", "6", "8", "9", "12", "13", "40", "41", "999999", "1000000", "00", "01", "006", "+2", "-0", "-1", "0x2", "2.0", "1e1", "1_0", "٢", "９", "two", "",
			"9223372036854775807", "9223372036854775808", "18446744073709551618", "99999999999999999999", "-9223372036854775808", "2\x00", "\xff",
		}
	case 'C':
		return []string{"1-2/4", "0-0/1", "10-10/10", "0-7/9", "3-0/5", "", "1-2", "1/2", "1-2/", "-2/4", "5-2/4", "1-5/4", "0-0/0", "1-2/11", "01-2/4", "1-02/4", "1-2/04", "+1-2/4", "1-2/4:0-1/2", "1-2/4\t", "-1-2/4", "1-2/-4", "1--2/4", "dw"}
	case 'F':
		return []string{"1/2", "1/3", "9/10", "5/10", "", "0/2", "2/2", "1/1", "0/1", "1/11", "10/11", "01/2", "1/02", "+1/2", "1/", "/2", "12", "1-2", "1-2/4", "1/2/", "1/2\r", "-1/2", "1/-2", "h"}
	case 'H':
		return []string{"1-1/2:0-1/2", "0-0/1:0-0/1", "10-10/10:10-10/10", "2-1/3:4-0/7", "", ":", "1-1/2", "1-1/2:", ":0-1/2", "1-1/2:0-1/0", "1-1/2:3-1/2", "3-1/2:0-1/2", "1-1/11:0-1/2", "1-1/2:0-1/11", "1-1/2:0-1/2:0-1/2", "1-1/2:00-1/2", "1-1/2:0-1/2.", "01-1/2:0-1/2", "1/2"}
	case 'D':
		return []string{"d", "w", "dw", "ddwwwd", "wwwwwwww", "ddddddddd", "dddddddddd", strings.Repeat("dw", 30), strings.Repeat("dw", 30) + "d", "", "D", "dx", "h", "u", "d\t", "dé", "\xe4"}
	case 'A', 'B':
		return []string{"d", "w", "", "dd", "wd", "D", "h", "1", "d\x00", "\xf7"}
	case 'P':
		return []string{"h", "t", "hh", "hth", "htt", "hhhhhhhh", "hthththt", "hhhhhhhhh", "", "H", "hx", "d", "n", "h\r", "ｈ"}
	case 'T':
		return []string{
			"", "h", "t", "ht", "tt", "hhh", "hthhth", "hhhttt", "tthhththhttthhh", strings.Repeat("h", 40), strings.Repeat("ht", 20) + "t", strings.Repeat("hht", 66) + "tt", strings.Repeat("t", 200),
			strings.Repeat("t", 201), strings.Repeat("hth", 300), "H", "hx", "h,t", "-", "d", "h\x00", "\xe8",
		}
	}
	return []string{"u", "n", "un", "nu", "nnn", "uuuu", "unnun", "nnnnnn", "uuuuuu", "unuunn", "uuuuuuu", "", "U", "ux", "d", "-", "u\t", "\xf5"}
}

// linesOf are those of a name with all lists of words of its kinds.
func linesOf(name string) []string {
	lines := []string{name}
	for _, kind := range table[name].kinds {
		var longer []string
		for _, line := range lines {
			for _, word := range wordsOfKind(kind) {
				longer = append(longer, line+" "+word)
			}
		}
		lines = longer
	}
	return lines
}

func TestPromise10LinesDoWhatTheCallsDo(t *testing.T) {
	for name := range table {
		replies := map[string]bool{}
		for _, d := range namedDesks(t) {
			for _, line := range linesOf(name) {
				replies[mustDoAsCalled(t, d, line)] = true
			}
		}
		delete(replies, "no")
		delete(replies, "what")
		if len(replies) < 3 {
			t.Error(name, "replies only", replies)
		}
	}
}

func TestPromise10AllChainsAndCoinsAndHiddenDaysAreSet(t *testing.T) {
	first := impl.FirstDesk()
	for text, c := range chainsByText() {
		d := first
		d.Chain = c
		mustReply(t, first, d, "chain "+text, text)
		for _, line := range []string{"show", "turn", "share d", "run w", "until d w", "likely w 3", "ever wd", "later w d 8"} {
			mustDoAsCalled(t, d, line)
		}
	}
	for text, c := range coinsByText() {
		d := first
		d.Coin = c
		mustReply(t, first, d, "coin "+text, text)
		for _, line := range []string{"toss", "wait hth", "between tth", "by ht 8", "unfair hthhttthhththth"} {
			mustDoAsCalled(t, d, line)
		}
	}
	for _, h := range manyHidden() {
		d := first
		d.Hidden = h
		text := hiddenText(h)
		mustReply(t, first, d, "hidden "+text, text)
		for _, line := range []string{"tell", "swap", "signs unn", "guess nnu", "each nun", "next uu"} {
			mustDoAsCalled(t, d, line)
		}
	}
}

// someLines are good ones of each name, with several replies.
func someLines() []string {
	var lines []string
	first := impl.FirstDesk()
	for name := range table {
		for i, line := range linesOf(name) {
			if _, in := argumentsOf(first, line); in != nil && i%3 == 0 {
				lines = append(lines, line)
			}
		}
	}
	slices.Sort(lines)
	return lines
}

func TestTooManyAndTooFewWords(t *testing.T) {
	first := impl.FirstDesk()
	for _, line := range someLines() {
		words := strings.Split(line, " ")
		for i := range words {
			before, behind := strings.Join(words[:i], " "), strings.Join(words[i:], " ")
			// A blank more makes an empty word more.
			mustReply(t, first, first, before+" "+behind+" ", "what")
			if i > 0 {
				mustReply(t, first, first, before+"  "+behind, "what")
				mustReply(t, first, first, before, "what")
				mustReply(t, first, first, before+"\t"+behind, "what")
			}
		}
		mustReply(t, first, first, " "+line, "what")
		for _, word := range []string{"", "d", "h", "u", "1", "1/2", line} {
			mustReply(t, first, first, line+" "+word, "what")
		}
	}
	for name, a := range table {
		if a.kinds == "" {
			continue
		}
		mustReply(t, first, first, name, "what")
		mustReply(t, first, first, name+strings.Repeat(" ", len(a.kinds)+1), "what")
		if a.kinds != "T" {
			mustReply(t, first, first, name+strings.Repeat(" ", len(a.kinds)), "what")
		}
	}
}

func TestAnythingElse(t *testing.T) {
	first := impl.FirstDesk()
	lines := []string{"", " ", "  ", "fly", "show show", "-", "no", "what", "1-2/4", "d", "\x00", "\xff", "é", "\t", "\r", "\ufeffshow", "desk", "help", strings.Repeat(" ", impl.MaxScript), strings.Repeat("x", impl.MaxScript)}
	for b := range 256 {
		if b != '\n' {
			lines = append(lines, string([]byte{byte(b)}))
		}
	}
	for _, line := range someLines() {
		name, words, _ := strings.Cut(line, " ")
		if len(words) < len(line)-len(name) {
			words = " " + words
		}
		lines = append(lines, strings.ToUpper(line), strings.ToUpper(name)+words, strings.ToUpper(name[:1])+name[1:]+words, line+"\r")
		for i := range name {
			lines = append(lines, name[:i]+name[i+1:]+words, name[:i]+"j"+name[i+1:]+words, name[:i]+"q"+name[i:]+words, name[:i]+" "+name[i:]+words)
		}
	}
	for _, line := range lines {
		mustReply(t, first, first, line, "what")
	}
	// Names of up to three letters, of which some are in the table.
	for _, name := range shortWords(26, 3) {
		mustDoAsCalled(t, first, name)
		mustDoAsCalled(t, first, name+" d")
	}
}

// byCalls is what a script does and replies, by the calls that it names.
func byCalls(lines []string) (impl.Desk, []string, []int) {
	d := impl.Desk{Chain: impl.Chain{Wets: 1, Dries: 2, Of: 4}, Coin: fair, Hidden: impl.Hidden{Chain: impl.Chain{Wets: 1, Dries: 1, Of: 2}, OnWet: 1, Per: 2}}
	var replies []string
	var failed []int
	for i, line := range lines {
		reply := ""
		d, reply = byCall(d, line)
		replies = append(replies, reply)
		if reply == "no" || reply == "what" {
			failed = append(failed, i+1)
		}
	}
	return d, replies, failed
}

func mustRun(t *testing.T, lines []string) {
	t.Helper()
	script := ""
	for _, line := range lines {
		script += line + "\n"
	}
	d, replies, failed := byCalls(lines)
	got, ok := impl.RunScript(script)
	mustTexts(t, replies, got, ok, "replies to", script)
	behind, ok := impl.DeskAfter(script)
	if !ok || behind != d {
		t.Fatal("the desk behind", script, "is", behind, ok, "and not", d)
	}
	numbers, ok := impl.FailedLines(script)
	mustList(t, failed, numbers, ok, "failed lines of", script)
	d = impl.FirstDesk()
	for i, line := range lines {
		next, reply, ok := impl.DeskLine(d, line)
		mustText(t, replies[i], reply, ok, line, d)
		if (reply == "no" || reply == "what") && next != d {
			t.Fatal(line, "changes", d, "to", next)
		}
		d = next
	}
	if d != behind {
		t.Fatal("line by line", script, "leaves", d, "and not", behind)
	}
}

// manyScripts have lines that are made up by a fixed rule: more of them change the desk than by chance.
func manyScripts() [][]string {
	changing, asking := []string{"turn", "swap"}, []string{""}
	for _, name := range []string{"chain", "coin", "hidden"} {
		changing = append(changing, linesOf(name)...)
	}
	for name, a := range table {
		if a.kinds != "" && !strings.Contains("CFH", a.kinds) {
			asking = append(asking, linesOf(name)...)
		}
	}
	asking = append(asking, "show", "toss", "tell", "fly")
	slices.Sort(asking)
	z := 10
	next := func(below int) int {
		z = (z*1103515245 + 12345) % (1 << 31)
		return z >> 8 % below
	}
	var scripts [][]string
	for k := range 3000 {
		var lines []string
		bytes := 0
		for range k % (impl.MaxLines + 1) {
			line := asking[next(len(asking))]
			if next(4) == 0 {
				line = changing[next(len(changing))]
			}
			if bytes += len(line) + 1; bytes > impl.MaxScript {
				break
			}
			lines = append(lines, line)
		}
		scripts = append(scripts, lines)
	}
	return scripts
}

func TestPromise10ScriptsDoWhatTheCallsDo(t *testing.T) {
	long, failed, replied, changed := 0, 0, 0, 0
	for _, lines := range manyScripts() {
		mustRun(t, lines)
		d, _, numbers := byCalls(lines)
		if len(lines) == impl.MaxLines {
			long++
		}
		failed += len(numbers)
		replied += len(lines) - len(numbers)
		if d != impl.FirstDesk() {
			changed++
		}
	}
	if long < 5 || failed < 1000 || replied < 1000 || changed < 1000 {
		t.Error(long, "long scripts,", failed, "lines that failed,", replied, "others,", changed, "desks changed")
	}
}

func TestPromise10LinesSeeWhatTheOnesBeforeSet(t *testing.T) {
	mustRun(t, []string{
		"show", "toss", "tell", "chain 0-2/4", "share d", "turn", "show", "run d", "chain 5-2/4", "show", "chain", "show", "turn", "share w", "chain 3-7/9", "share d", "days dw",
		"coin 1/3", "wait ht", "coin 1/1", "wait ht", "unfair tt", "coin 9/10", "between hh", "by h 1", "by h 9", "toss", "hidden 1-1/2:1-1/1", "signs n", "guess n", "next n", "swap",
		"hidden 0-0/5:0-1/1", "each uu", "swap", "each uu", "tell", "hidden 0-0/5", "tell", "later d w 1", "until d w", "likely d 4", "turn", "likely d 4", "show", "toss", "tell", "", "fly", "show",
	})
}

func TestScriptsAtTheirLimits(t *testing.T) {
	for _, s := range []string{
		"", "\n", "\n\n", "show\n", "show\n\nshow\n", " \n", "\r\n", "show\r\n", "\x00\n", "\xff\n", "turn \n", strings.Repeat("\n", impl.MaxLines), strings.Repeat("turn\n", impl.MaxLines),
		strings.Repeat("x", impl.MaxScript-1) + "\n", "show\n" + strings.Repeat("x", impl.MaxScript-6) + "\n", "\n" + strings.Repeat("x", impl.MaxScript-2) + "\n",
		strings.Repeat(strings.Repeat("x", impl.MaxScript/impl.MaxLines-1)+"\n", impl.MaxLines), strings.Repeat("turn\n", impl.MaxLines-1) + strings.Repeat(" ", impl.MaxScript-1-5*(impl.MaxLines-1)) + "\n",
		"places hh " + strings.Repeat("h", 200) + "\nfair " + strings.Repeat("th", 100) + "\n",
	} {
		var lines []string
		if s != "" {
			lines = strings.Split(s[:len(s)-1], "\n")
		}
		mustRun(t, lines)
	}
	// No lines at all, and only good ones.
	for _, s := range []string{"", "show\n", strings.Repeat("turn\n", impl.MaxLines)} {
		failed, ok := impl.FailedLines(s)
		mustList(t, nil, failed, ok, "failed lines of", s)
	}
	first := impl.FirstDesk()
	mustReply(t, first, first, strings.Repeat("x", impl.MaxScript), "what")
	mustReply(t, first, first, "fair "+strings.Repeat("h", impl.MaxScript-5), "what")
	mustReply(t, first, first, "fair "+strings.Repeat("h", 200), "-")
}

func TestNoScripts(t *testing.T) {
	for _, s := range badScripts {
		mustNotTell(t, impl.RunScript, s)
		mustNotTell(t, impl.DeskAfter, s)
		mustNotTell(t, impl.FailedLines, s)
	}
}

func TestNoLines(t *testing.T) {
	for _, d := range namedDesks(t) {
		for _, line := range badLines {
			mustNotTell(t, impl.DeskLine, d, line)
		}
	}
}

func TestNoDesks(t *testing.T) {
	lines := append([]string{"", "fly", "chain 1-2/4", "coin 1/2", "hidden 1-1/2:0-1/2", "turn", "swap", "show", "toss", "tell"}, badLines...)
	for i, line := range someLines() {
		if i%20 == 0 {
			lines = append(lines, line)
		}
	}
	for _, d := range badDesks() {
		mustNotTell(t, impl.IsDesk, d)
		for _, line := range lines {
			mustNotTell(t, impl.DeskLine, d, line)
		}
	}
	for _, d := range namedDesks(t) {
		if !impl.IsDesk(d) {
			t.Error("no desk", d)
		}
	}
}
