package tests

import (
	"math/big"
	"slices"
	"strings"
	"testing"

	"loop.example/g01337/impl"
)

// The tests of promise 6: mean waits are sums of powers, and rings have all words.

const allLetters = "abcdefghijklmnopqrstuvwxyz"

// wordsOf lists all words of an alphabet with so many letters, in order.
func wordsOf(letters, long int) []string {
	list := []string{""}
	for range long {
		var longer []string
		for _, w := range list {
			for _, letter := range allLetters[:letters] {
				longer = append(longer, w+string(letter))
			}
		}
		list = longer
	}
	return list
}

// shortWords lists all words of an alphabet with at most so many letters.
func shortWords(letters, most int) []string {
	var list []string
	for long := 1; long <= most; long++ {
		list = append(list, wordsOf(letters, long)...)
	}
	return list
}

// wordShapes lists a word for each way in which its letters may be the same: each letter is there already, or is the next one that is not.
func wordShapes(long int) []string {
	list := []string{""}
	for range long {
		var longer []string
		for _, w := range list {
			for _, letter := range allLetters[:lettersUsed(w)+1] {
				longer = append(longer, w+string(letter))
			}
		}
		list = longer
	}
	return list
}

// lettersUsed are those of the least alphabet of which a text is.
func lettersUsed(text string) int {
	used := 0
	for _, letter := range text {
		used = max(used, int(letter-'a')+1)
	}
	return used
}

// lastLetters tells a word by the last letters of an alphabet instead of the first ones.
func lastLetters(letters int, w string) string {
	return strings.Map(func(letter rune) rune { return 'a' + rune(letters-1) - (letter - 'a') }, w)
}

// typedWords are words of all shapes of at most 4 letters, and some longer ones, by the first letters of an alphabet and by the last ones.
func typedWords(letters int) []string {
	shapes := []string{
		"aaaaa", "aaaab", "abaab", "ababa", "abcde", "abcab", "aaaaaa", "abaaba", "ababab", "aabaab", "abcabc", "abcdef", "aaaaaaa", "abababa", "aabaaba", "abcdefg",
		"aaaaaaaa", "aaaaaaab", "abababab", "aabaabaa", "abcabcab", "aaabaaab", "abcdabcd", "abcdefga", "abcdefgh", "abacabac", "abacabad", "abbbbbba",
	}
	for long := 1; long <= 4; long++ {
		shapes = append(shapes, wordShapes(long)...)
	}
	var list []string
	for _, w := range shapes {
		if lettersUsed(w) <= letters {
			list = append(list, w, lastLetters(letters, w))
		}
	}
	slices.Sort(list)
	return slices.Compact(list)
}

// ringSizes are all alphabets and numbers of letters of which the words are not too many to be listed.
func ringSizes() [][2]int {
	var sizes [][2]int
	for letters := 1; letters <= impl.MaxLetters; letters++ {
		words := letters
		for long := 1; long <= impl.MaxWord && words <= 300; long++ {
			sizes = append(sizes, [2]int{letters, long})
			words *= letters
		}
	}
	return sizes
}

// overlapsByCutting tells by how many letters a word overlaps itself, and all of its letters.
func overlapsByCutting(w string) []int {
	var list []int
	for k := range len(w) {
		if w[:k+1] == w[len(w)-k-1:] {
			list = append(list, k+1)
		}
	}
	return list
}

func raised(letters, to int) *big.Int {
	return new(big.Int).Exp(big.NewInt(int64(letters)), big.NewInt(int64(to)), nil)
}

// sumOfPowers tells the mean as the document does.
func sumOfPowers(letters int, w string) int {
	sum := new(big.Int)
	for _, k := range overlapsByCutting(w) {
		sum.Add(sum, raised(letters, k))
	}
	return int(sum.Int64())
}

// typedByLetters solves the equations of each next letter.
func typedByLetters(letters int, w string) *big.Rat {
	rows := make([][]*big.Rat, len(w))
	for begun := range rows {
		rows[begun] = make([]*big.Rat, len(w)+1)
		for k := range rows[begun] {
			rows[begun][k] = new(big.Rat)
		}
		rows[begun][begun].SetInt64(1)
		rows[begun][len(w)].SetInt64(1)
		for _, letter := range allLetters[:letters] {
			at := w[:begun] + string(letter)
			for !strings.HasPrefix(w, at) {
				at = at[1:]
			}
			if k := len(at); k < len(w) {
				rows[begun][k].Sub(rows[begun][k], big.NewRat(1, int64(letters)))
			}
		}
	}
	return solveFirst(rows)[0]
}

// turnsByIndex are all turns of a word, from that by 0 on.
func turnsByIndex(w string) []string {
	var list []string
	for by := range len(w) {
		list = append(list, (w + w)[by:by+len(w)])
	}
	return list
}

// primesByRule goes from each prime word of at most long letters to the next one: told again up to long letters, without the last ones of the alphabet at its end, and with the next letter for the one before them.
func primesByRule(letters, long int) []string {
	last := string(allLetters[letters-1])
	var list []string
	for w := "a"; ; {
		list = append(list, w)
		w = strings.TrimRight(strings.Repeat(w, long)[:long], last)
		if w == "" {
			return list
		}
		w = w[:len(w)-1] + string(w[len(w)-1]+1)
	}
}

// ringByCounting tells whether each word of all is around a ring once.
func ringByCounting(words []string, ring string) bool {
	counts := map[string]int{}
	for from := range len(ring) {
		word := ""
		for k := range len(words[0]) {
			word += string(ring[(from+k)%len(ring)])
		}
		counts[word]++
	}
	for _, w := range words {
		if counts[w] != 1 {
			return false
		}
	}
	return true
}

func mustSay(t *testing.T, want, got, ok bool, what ...any) {
	t.Helper()
	if !ok || got != want {
		t.Fatal(what, "is", got, ok, "and not", want)
	}
}

func TestExamplesOfChapter6(t *testing.T) {
	n, ok := impl.MeanTyped(2, "aa")
	mustCount(t, 6, n, ok, "mean")
	n, ok = impl.MeanTyped(2, "ab")
	mustCount(t, 4, n, ok, "mean")
	n, ok = impl.CountTextsWithout(2, "aa", 3)
	mustCount(t, 5, n, ok, "without")
	text, ok := impl.ShortestWithBoth("aba", "bab")
	mustText(t, "abab", text, ok, "both")
	text, n, ok = impl.RootOfWord("abab")
	mustText(t, "ab", text, ok && n == 2, "root", n)
	list, ok := impl.PrimeWords(2, 3)
	mustTexts(t, []string{"aab", "abb"}, list, ok, "primes")
	text, ok = impl.RingWithAll(2, 3)
	mustText(t, "aaababbb", text, ok, "ring")
	n, ok = impl.CountNecklaces(2, 4)
	mustCount(t, 6, n, ok, "necklaces")
	text, n, ok = impl.LongestTyped(2, 3)
	mustText(t, "aaa", text, ok && n == 14, "longest", n)
}

func TestPromise6MeanWaitsAreSumsOfPowers(t *testing.T) {
	for long := 1; long <= impl.MaxWord; long++ {
		for _, w := range wordShapes(long) {
			for letters := lettersUsed(w); letters <= impl.MaxLetters; letters++ {
				want := sumOfPowers(letters, w)
				n, ok := impl.MeanTyped(letters, w)
				mustCount(t, want, n, ok, "mean", letters, w)
				n, ok = impl.MeanTyped(letters, lastLetters(letters, w))
				mustCount(t, want, n, ok, "mean", letters, lastLetters(letters, w))
			}
		}
	}
}

func TestMeanWaitsAreThoseOfEachNextLetter(t *testing.T) {
	words := map[int][]string{1: shortWords(1, 8), 2: shortWords(2, 8), 3: shortWords(3, 5)}
	for _, letters := range []int{4, 5, 10, 25, 26} {
		words[letters] = typedWords(letters)
	}
	for letters, list := range words {
		for _, w := range list {
			n, ok := impl.MeanTyped(letters, w)
			mustTell(t, typedByLetters(letters, w), n, 1, ok, "mean", letters, w)
		}
	}
}

// With two letters a word is waited for as a pattern of fair tosses is.
func TestMeanWaitsOfTwoLettersAreThoseOfPatterns(t *testing.T) {
	tosses := strings.NewReplacer("a", "h", "b", "t")
	for _, w := range shortWords(2, impl.MaxWord) {
		want, d, fine := impl.MeanWait(fair, tosses.Replace(w))
		n, ok := impl.MeanTyped(2, w)
		mustCount(t, want, n, ok && fine && d == 1, "mean", w)
	}
}

func TestPromise6RingsHaveAllWords(t *testing.T) {
	for _, size := range ringSizes() {
		letters, long := size[0], size[1]
		words := wordsOf(letters, long)
		want := ""
		for _, w := range primesByRule(letters, long) {
			if long%len(w) == 0 {
				want += w
			}
		}
		ring, ok := impl.RingWithAll(letters, long)
		mustText(t, want, ring, ok, "ring", letters, long)
		if len(ring) != len(words) || !ringByCounting(words, ring) {
			t.Fatal("ring", letters, long, "has not each word once:", ring)
		}
		for _, turn := range turnsByIndex(ring) {
			has, ok := impl.HasAllWords(letters, long, turn)
			mustSay(t, true, has, ok, "has all", letters, long, turn)
		}
	}
}

// The ring is the first one of all texts that are rings with all words.
func TestRingsOfAllTexts(t *testing.T) {
	for size, rings := range map[[2]int]int{{1, 1}: 1, {1, 4}: 1, {1, 8}: 1, {2, 1}: 2, {2, 2}: 4, {2, 3}: 16, {2, 4}: 256, {3, 1}: 6, {3, 2}: 216, {4, 1}: 24, {5, 1}: 120} {
		letters, long := size[0], size[1]
		words := wordsOf(letters, long)
		var found []string
		for _, ring := range wordsOf(letters, len(words)) {
			want := ringByCounting(words, ring)
			has, ok := impl.HasAllWords(letters, long, ring)
			mustSay(t, want, has, ok, "has all", letters, long, ring)
			if has {
				found = append(found, ring)
			}
		}
		ring, ok := impl.RingWithAll(letters, long)
		if len(found) != rings || found[0] != ring || !ok {
			t.Fatal("rings", letters, long, "are", len(found), "and not", rings, "from", found[0], "on, and not from", ring, ok)
		}
	}
}

// With one letter told as another one, a ring of several words has not all of them.
func TestRingsThatMissWords(t *testing.T) {
	for _, size := range ringSizes() {
		letters, long := size[0], size[1]
		ring, _ := impl.RingWithAll(letters, long)
		if letters == 1 {
			continue
		}
		for i := range len(ring) {
			other := allLetters[(int(ring[i]-'a')+1)%letters]
			changed := ring[:i] + string(other) + ring[i+1:]
			has, ok := impl.HasAllWords(letters, long, changed)
			mustSay(t, false, has, ok, "has all", letters, long, changed)
		}
		for _, letter := range allLetters[:letters] {
			one := strings.Repeat(string(letter), len(ring))
			has, ok := impl.HasAllWords(letters, long, one)
			mustSay(t, false, has, ok, "has all", letters, long, one)
		}
	}
}

func TestWordsOfAlphabets(t *testing.T) {
	for letters := 1; letters <= impl.MaxLetters; letters++ {
		for k, letter := range allLetters {
			for _, w := range []string{string(letter), "a" + string(letter), string(letter) + "a", "aaa" + string(letter) + "aaaa"} {
				is, ok := impl.IsWord(letters, w)
				mustSay(t, k < letters, is, ok, "word", letters, w)
			}
		}
		for _, w := range append(slices.Clone(badWords), badTexts...) {
			is, ok := impl.IsWord(letters, w)
			mustSay(t, false, is, ok, "word", letters, w)
		}
		for long := range 12 {
			is, ok := impl.IsWord(letters, strings.Repeat("a", long))
			mustSay(t, long >= 1 && long <= 8, is, ok, "word", letters, long)
		}
	}
}

func TestOverlapsOfWords(t *testing.T) {
	for long := 1; long <= impl.MaxWord; long++ {
		for _, w := range wordShapes(long) {
			all := overlapsByCutting(w)
			for _, word := range []string{w, lastLetters(26, w)} {
				list, ok := impl.WordOverlaps(word)
				mustList(t, all[:len(all)-1], list, ok, "overlaps", word)
			}
		}
	}
	list, ok := impl.WordOverlaps("abacabab")
	mustList(t, []int{2}, list, ok, "overlaps")
	list, ok = impl.WordOverlaps("aabaabaa")
	mustList(t, []int{1, 2, 5}, list, ok, "overlaps")
}

func TestCountsOfTypedTextsAreThoseOfAllTexts(t *testing.T) {
	for letters, most := range map[int]int{1: 10, 2: 10, 3: 6, 4: 5} {
		for long := range most + 1 {
			texts := wordsOf(letters, long)
			for _, w := range shortWords(letters, min(most, 5)) {
				without, first := 0, 0
				for _, text := range texts {
					at := strings.Index(text, w)
					if at < 0 {
						without++
					} else if at+len(w) == long {
						first++
					}
				}
				n, ok := impl.CountTextsWithout(letters, w, long)
				mustCount(t, without, n, ok, "without", letters, w, long)
				n, ok = impl.CountFirstTyped(letters, w, long)
				mustCount(t, first, n, ok, "first", letters, w, long)
			}
		}
	}
}

// countsByOverlaps tells both counts for each number of letters: if a word is typed behind a text without it, the first one ends with some of its letters by which it overlaps itself, or with all; and a letter behind a text without it leaves it so, or ends the first one.
func countsByOverlaps(letters int, w string, most int) ([]*big.Int, []*big.Int) {
	without, first := []*big.Int{big.NewInt(1)}, []*big.Int{new(big.Int)}
	overlaps := overlapsByCutting(w)
	for long := 1; long <= most; long++ {
		ended := new(big.Int)
		if before := long - len(w); before >= 0 {
			ended.Set(without[before])
			for _, k := range overlaps[:len(overlaps)-1] {
				ended.Sub(ended, first[before+k])
			}
		}
		left := new(big.Int).Mul(big.NewInt(int64(letters)), without[long-1])
		first = append(first, ended)
		without = append(without, left.Sub(left, ended))
	}
	return without, first
}

// mustCountUpTo asks for a count, or that it fails if the count is above the limit.
func mustCountUpTo(t *testing.T, want *big.Int, f func(int, string, int) (int, bool), letters int, w string, long int) bool {
	t.Helper()
	if want.Cmp(big.NewInt(1000000000000000)) > 0 {
		mustNotTell(t, f, letters, w, long)
		return false
	}
	n, ok := f(letters, w, long)
	mustCount(t, int(want.Int64()), n, ok, "count", letters, w, long)
	return true
}

func TestCountsOfTypedTextsUpToTheLimit(t *testing.T) {
	onlyFirst, neither := 0, 0
	for letters := 1; letters <= impl.MaxLetters; letters++ {
		for _, w := range typedWords(letters) {
			without, first := countsByOverlaps(letters, w, 30)
			for long := range 31 {
				told := mustCountUpTo(t, without[long], impl.CountTextsWithout, letters, w, long)
				ended := mustCountUpTo(t, first[long], impl.CountFirstTyped, letters, w, long)
				if !told && ended {
					onlyFirst++
				}
				if !told && !ended {
					neither++
				}
			}
		}
	}
	if onlyFirst == 0 || neither == 0 {
		t.Error("only the first ones are told", onlyFirst, "times, and neither", neither, "times")
	}
}

// A letter behind a text without the word leaves it so, or ends the first one.
func TestCountsOfTypedTextsAddUp(t *testing.T) {
	for letters := 1; letters <= impl.MaxLetters; letters++ {
		for _, w := range typedWords(letters) {
			before, fine := impl.CountTextsWithout(letters, w, 0)
			mustCount(t, 1, before, fine, "without", letters, w)
			for long := 1; long <= 30; long++ {
				without, ok := impl.CountTextsWithout(letters, w, long)
				if !ok {
					break
				}
				first, ok := impl.CountFirstTyped(letters, w, long)
				mustCount(t, letters*before-without, first, ok, "first", letters, w, long)
				before = without
			}
		}
	}
}

func TestCountsThatMeetTheLimitExactly(t *testing.T) {
	most := 1000000000000000
	for _, w := range []string{"a", "f", "k"} {
		n, ok := impl.CountTextsWithout(11, w, 15)
		mustCount(t, most, n, ok, "without", w)
		mustNotTell(t, impl.CountTextsWithout, 11, w, 16)
		n, ok = impl.CountFirstTyped(11, w, 16)
		mustCount(t, most, n, ok, "first", w)
		mustNotTell(t, impl.CountFirstTyped, 11, w, 17)
	}
	for long := range 31 {
		n, ok := impl.CountTextsWithout(2, "b", long)
		mustCount(t, 1, n, ok, "without", long)
		n, ok = impl.CountTextsWithout(2, "abababab", long)
		if !ok || n < 1 || n > 1<<30 {
			t.Fatal("without", long, n, ok)
		}
	}
	mustNotTell(t, impl.CountTextsWithout, 26, "abcdefgh", 30)
	mustNotTell(t, impl.CountFirstTyped, 26, "abcdefgh", 30)
	n, ok := impl.CountFirstTyped(26, "abcdefgh", 8)
	mustCount(t, 1, n, ok, "first")
}

func TestPlacesOfWords(t *testing.T) {
	for _, w := range shortWords(2, 4) {
		for long := range 9 {
			for _, text := range wordsOf(2, long) {
				var want []int
				for _, end := range endsOf(w, text) {
					want = append(want, end-len(w))
				}
				list, ok := impl.PlacesOfWord(w, text)
				mustList(t, want, list, ok, "places", w, text)
			}
		}
	}
	var all []int
	for k := range impl.MaxTyped {
		all = append(all, k)
	}
	list, ok := impl.PlacesOfWord("z", strings.Repeat("z", impl.MaxTyped))
	mustList(t, all, list, ok, "places")
	list, ok = impl.PlacesOfWord("zzzzzzzz", strings.Repeat("z", impl.MaxTyped))
	mustList(t, all[:impl.MaxTyped-7], list, ok, "places")
	list, ok = impl.PlacesOfWord("hijklmno", allLetters+allLetters+allLetters[:8])
	mustList(t, []int{7, 33}, list, ok, "places")
	list, ok = impl.PlacesOfWord("aa", allLetters+allLetters+allLetters[:8])
	mustList(t, nil, list, ok, "places")
	list, ok = impl.PlacesOfWord("abcdefgh", "abcdefg")
	mustList(t, nil, list, ok, "places")
	for _, w := range typedWords(26) {
		list, ok = impl.PlacesOfWord(w, "")
		mustList(t, nil, list, ok, "places", w)
		list, ok = impl.PlacesOfWord(w, w)
		mustList(t, []int{0}, list, ok, "places", w)
		end := strings.Repeat("q", impl.MaxTyped-len(w)) + w
		list, ok = impl.PlacesOfWord(w, end)
		mustList(t, []int{impl.MaxTyped - len(w)}, list, ok, "places", w)
	}
}

// bothByPlaces lays one word over the other one at all places where no letter is against another one.
func bothByPlaces(a, b string) string {
	best := a + b
	for place := -len(b); place <= len(a); place++ {
		from, to := min(place, 0), max(len(a), place+len(b))
		text, fits := "", true
		for k := from; k < to; k++ {
			inA, inB := k >= 0 && k < len(a), k >= place && k < place+len(b)
			if inA && inB && a[k] != b[k-place] {
				fits = false
			}
			if inA {
				text += string(a[k])
			} else if inB {
				text += string(b[k-place])
			}
		}
		if fits && (len(text) < len(best) || len(text) == len(best) && text < best) {
			best = text
		}
	}
	return best
}

func mustHaveBoth(t *testing.T, want, a, b string) {
	t.Helper()
	text, ok := impl.ShortestWithBoth(a, b)
	mustText(t, want, text, ok, "both", a, b)
	text, ok = impl.ShortestWithBoth(b, a)
	mustText(t, want, text, ok, "both", b, a)
}

func TestShortestTextsAreThoseOfAllTexts(t *testing.T) {
	var texts []string
	for long := range 9 {
		texts = append(texts, wordsOf(2, long)...)
	}
	for long := range 7 {
		texts = append(texts, wordsOf(3, long)...)
	}
	slices.SortStableFunc(texts, func(x, y string) int { return len(x) - len(y) })
	for _, words := range [][]string{shortWords(2, 4), shortWords(3, 3)} {
		for _, a := range words {
			for _, b := range words {
				best := ""
				for _, text := range texts {
					if best != "" && len(text) > len(best) {
						break
					}
					if strings.Contains(text, a) && strings.Contains(text, b) && (best == "" || text < best) {
						best = text
					}
				}
				mustHaveBoth(t, best, a, b)
			}
		}
	}
}

func TestShortestTextsAreLaidOver(t *testing.T) {
	lists := [][]string{shortWords(2, 6), shortWords(3, 4), typedWords(26), wordsOf(2, 8), append(wordsOf(2, 7)[30:60], wordsOf(2, 5)...)}
	for k, list := range lists {
		for i, a := range list {
			for j, b := range list {
				if k != 3 || (i*7+j)%5 == 0 {
					mustHaveBoth(t, bothByPlaces(a, b), a, b)
				}
			}
		}
	}
}

func TestShortestTextsThatAreNamed(t *testing.T) {
	for _, x := range [][3]string{
		{"a", "a", "a"}, {"z", "a", "az"}, {"a", "z", "az"}, {"abc", "b", "abc"}, {"abc", "abc", "abc"}, {"abcdefgh", "cdef", "abcdefgh"}, {"abcdefgh", "h", "abcdefgh"},
		{"abcdefgh", "ijklmnop", "abcdefghijklmnop"}, {"zyxwvuts", "zzzzzzzz", "zzzzzzzzyxwvuts"}, {"ab", "ba", "aba"}, {"bab", "aba", "abab"}, {"aab", "baa", "baab"}, {"aba", "baa", "abaa"}, {"bba", "abb", "abba"},
		{"abcdabcd", "dabcdabc", "dabcdabcd"}, {"aaaaaaab", "baaaaaaa", "baaaaaaab"}, {"ca", "bc", "bca"}, {"ba", "b", "ba"}, {"ba", "a", "ba"},
	} {
		mustHaveBoth(t, x[2], x[0], x[1])
	}
}

func TestRootsOfWords(t *testing.T) {
	for long := 1; long <= impl.MaxWord; long++ {
		for _, shape := range wordShapes(long) {
			for _, w := range []string{shape, lastLetters(26, shape)} {
				want := ""
				for k := 1; want == "" || strings.Repeat(want, long/len(want)) != w; k++ {
					want = w[:k]
				}
				root, times, ok := impl.RootOfWord(w)
				mustText(t, want, root, ok && times == long/len(want), "root", w, times)
			}
		}
	}
	for w, want := range map[string]string{"aaaaaaaa": "a", "abababab": "ab", "abcdabcd": "abcd", "abcabcab": "abcabcab", "z": "z", "zz": "z", "abaaba": "aba", "abaabaa": "abaabaa"} {
		root, times, ok := impl.RootOfWord(w)
		mustText(t, want, root, ok && times*len(want) == len(w), "root", w, times)
	}
}

func TestTurnsOfWords(t *testing.T) {
	for long := 1; long <= impl.MaxWord; long++ {
		for _, shape := range wordShapes(long) {
			for _, w := range []string{shape, lastLetters(26, shape)} {
				turns := turnsByIndex(w)
				for by, want := range turns {
					turn, ok := impl.TurnWord(w, by)
					mustText(t, want, turn, ok, "turn", w, by)
				}
				first, ok := impl.FirstTurn(w)
				mustText(t, slices.Min(turns), first, ok, "first turn", w)
			}
		}
	}
	turn, ok := impl.TurnWord("abcdefgh", 0)
	mustText(t, "abcdefgh", turn, ok, "turn")
	turn, ok = impl.TurnWord("abcdefgh", 3)
	mustText(t, "defghabc", turn, ok, "turn")
	turn, ok = impl.TurnWord("abcdefgh", 7)
	mustText(t, "habcdefg", turn, ok, "turn")
}

// A word is prime, too, if it comes before all texts that it ends with.
func TestPrimeWordsComeBeforeTheirEnds(t *testing.T) {
	for long := 1; long <= impl.MaxWord; long++ {
		for _, shape := range wordShapes(long) {
			for _, w := range []string{shape, lastLetters(26, shape)} {
				want := true
				for k := 1; k < long; k++ {
					want = want && w < w[k:]
				}
				prime, ok := impl.IsPrimeWord(w)
				mustSay(t, want, prime, ok, "prime", w)
			}
		}
	}
	for w, want := range map[string]bool{"a": true, "z": true, "aa": false, "ab": true, "ba": false, "abab": false, "aabab": true, "abaab": false, "aaaaaaab": true, "aabaab": false, "abcdefgh": true} {
		prime, ok := impl.IsPrimeWord(w)
		mustSay(t, want, prime, ok, "prime", w)
	}
}

func TestPrimeWordsAreListed(t *testing.T) {
	for _, size := range ringSizes() {
		letters, long := size[0], size[1]
		var want []string
		for _, w := range primesByRule(letters, long) {
			if len(w) == long {
				want = append(want, w)
			}
		}
		list, ok := impl.PrimeWords(letters, long)
		mustTexts(t, want, list, ok, "primes", letters, long)
		n, ok := impl.CountPrimeWords(letters, long)
		mustCount(t, len(want), n, ok, "primes", letters, long)
		var filtered []string
		for _, w := range wordsOf(letters, long) {
			if prime, _ := impl.IsPrimeWord(w); prime {
				filtered = append(filtered, w)
			}
		}
		mustTexts(t, want, filtered, true, "primes of all words", letters, long)
	}
}

// countByTurning counts by the words that each turn leaves the same; those that no turn but that by 0 leaves the same are counted with signs by Möbius.
func countByTurning(letters, long int) (int, int) {
	moebius := map[int]int64{1: 1, 2: -1, 3: -1, 5: -1, 6: 1, 7: -1}
	primes, necklaces := new(big.Int), new(big.Int)
	for by := 1; by <= long; by++ {
		same := int(new(big.Int).GCD(nil, nil, big.NewInt(int64(by)), big.NewInt(int64(long))).Int64())
		necklaces.Add(necklaces, raised(letters, same))
		if long%by == 0 {
			primes.Add(primes, new(big.Int).Mul(big.NewInt(moebius[by]), raised(letters, long/by)))
		}
	}
	return int(primes.Int64()) / long, int(necklaces.Int64()) / long
}

// Nothing is listed, so that the limit of what is listed is none of these counts.
func TestCountsOfPrimeWordsAndNecklaces(t *testing.T) {
	for letters := 1; letters <= impl.MaxLetters; letters++ {
		for long := 1; long <= impl.MaxWord; long++ {
			primes, necklaces := countByTurning(letters, long)
			n, ok := impl.CountPrimeWords(letters, long)
			mustCount(t, primes, n, ok, "primes", letters, long)
			n, ok = impl.CountNecklaces(letters, long)
			mustCount(t, necklaces, n, ok, "necklaces", letters, long)
		}
	}
	for letters, most := range map[int]int{1: 8, 2: 8, 3: 8, 4: 6, 5: 5, 26: 3} {
		for long := 1; long <= most; long++ {
			firsts := map[string]bool{}
			for _, w := range wordsOf(letters, long) {
				firsts[slices.Min(turnsByIndex(w))] = true
			}
			n, ok := impl.CountNecklaces(letters, long)
			mustCount(t, len(firsts), n, ok, "necklaces", letters, long)
		}
	}
}

func TestNecklacesThatAreTheSame(t *testing.T) {
	words := append(shortWords(2, 6), shortWords(3, 4)...)
	words = append(append(words, wordsOf(2, 8)...), typedWords(26)...)
	for _, a := range words {
		for _, b := range words {
			same, ok := impl.SameNecklace(a, b)
			mustSay(t, len(a) == len(b) && strings.Contains(a+a, b), same, ok, "same", a, b)
		}
	}
}

func TestLongestTypedWords(t *testing.T) {
	for letters := 1; letters <= impl.MaxLetters; letters++ {
		for long := 1; long <= impl.MaxWord; long++ {
			first, most := "", 0
			for _, w := range wordShapes(long) {
				if mean := sumOfPowers(letters, w); lettersUsed(w) <= letters && mean > most {
					first, most = w, mean
				}
			}
			w, n, ok := impl.LongestTyped(letters, long)
			mustText(t, first, w, ok && n == most, "longest", letters, long, n)
			mean, ok := impl.MeanTyped(letters, w)
			mustCount(t, n, mean, ok, "mean", letters, w)
		}
	}
	for letters, most := range map[int]int{1: 8, 2: 8, 3: 6, 26: 3} {
		for long := 1; long <= most; long++ {
			first, greatest := "", 0
			for _, w := range wordsOf(letters, long) {
				if mean, _ := impl.MeanTyped(letters, w); mean > greatest {
					first, greatest = w, mean
				}
			}
			w, n, ok := impl.LongestTyped(letters, long)
			mustText(t, first, w, ok && n == greatest, "longest", letters, long, n)
		}
	}
}

func mustRank(t *testing.T, rank, letters int, w string) {
	t.Helper()
	got, ok := impl.WordOfRank(letters, len(w), rank)
	mustText(t, w, got, ok, "word", letters, len(w), rank)
	n, ok := impl.RankOfWord(letters, w)
	mustCount(t, rank, n, ok, "rank", letters, w)
}

func TestRanksOfWords(t *testing.T) {
	for letters, most := range map[int]int{1: 8, 2: 8, 3: 8, 5: 5, 25: 3, 26: 3} {
		for long := 1; long <= most; long++ {
			for rank, w := range wordsOf(letters, long) {
				mustRank(t, rank, letters, w)
			}
		}
	}
	for letters := 1; letters <= impl.MaxLetters; letters++ {
		for long := 1; long <= impl.MaxWord; long++ {
			words := int(raised(letters, long).Int64())
			mustRank(t, 0, letters, strings.Repeat("a", long))
			mustRank(t, words-1, letters, strings.Repeat(allLetters[letters-1:letters], long))
			if letters > 1 {
				mustRank(t, words/letters, letters, "b"+strings.Repeat("a", long-1))
			}
			mustNotTell(t, impl.WordOfRank, letters, long, words)
			mustNotTell(t, impl.WordOfRank, letters, long, -1)
		}
	}
}

// With one letter there is one word of each number of letters, and one ring, of that letter alone.
func TestAlphabetOfOneLetter(t *testing.T) {
	for long := 1; long <= impl.MaxWord; long++ {
		w := strings.Repeat("a", long)
		n, ok := impl.MeanTyped(1, w)
		mustCount(t, long, n, ok, "mean", w)
		text, n, ok := impl.LongestTyped(1, long)
		mustText(t, w, text, ok && n == long, "longest", long, n)
		for typed := range 31 {
			without, first := 0, 0
			if typed < long {
				without = 1
			} else if typed == long {
				first = 1
			}
			n, ok = impl.CountTextsWithout(1, w, typed)
			mustCount(t, without, n, ok, "without", w, typed)
			n, ok = impl.CountFirstTyped(1, w, typed)
			mustCount(t, first, n, ok, "first", w, typed)
		}
		var primes []string
		if long == 1 {
			primes = []string{"a"}
		}
		list, ok := impl.PrimeWords(1, long)
		mustTexts(t, primes, list, ok, "primes", long)
		n, ok = impl.CountPrimeWords(1, long)
		mustCount(t, len(primes), n, ok, "primes", long)
		n, ok = impl.CountNecklaces(1, long)
		mustCount(t, 1, n, ok, "necklaces", long)
		ring, ok := impl.RingWithAll(1, long)
		mustText(t, "a", ring, ok, "ring", long)
		has, ok := impl.HasAllWords(1, long, "a")
		mustSay(t, true, has, ok, "has all", long)
		mustRank(t, 0, 1, w)
		mustNotTell(t, impl.WordOfRank, 1, long, 1)
		mustNotTell(t, impl.HasAllWords, 1, long, "")
		mustNotTell(t, impl.HasAllWords, 1, long, "b")
		mustNotTell(t, impl.HasAllWords, 1, long, "aa")
		if long > 1 {
			mustNotTell(t, impl.HasAllWords, 1, long, w)
		}
	}
}

func TestAlphabetOfAllLetters(t *testing.T) {
	list, ok := impl.PrimeWords(26, 1)
	mustTexts(t, strings.Split(allLetters, ""), list, ok, "primes")
	ring, ok := impl.RingWithAll(26, 1)
	mustText(t, allLetters, ring, ok, "ring")
	n, ok := impl.MeanTyped(26, "zzzzzzzz")
	mustCount(t, 217180147158, n, ok, "mean")
	n, ok = impl.MeanTyped(26, "abcdefgh")
	mustCount(t, 208827064576, n, ok, "mean")
	text, n, ok := impl.LongestTyped(26, 8)
	mustText(t, "aaaaaaaa", text, ok && n == 217180147158, "longest", n)
	mustRank(t, 208827064575, 26, "zzzzzzzz")
	n, ok = impl.CountTextsWithout(26, "z", 10)
	mustCount(t, 95367431640625, n, ok, "without")
	mustNotTell(t, impl.CountTextsWithout, 26, "z", 11)
	n, ok = impl.CountFirstTyped(26, "z", 11)
	mustCount(t, 95367431640625, n, ok, "first")
	mustNotTell(t, impl.CountFirstTyped, 26, "z", 12)
}

// Before a letter is typed there is one text, the empty one, and no word is in it.
func TestTextsOfNoLetters(t *testing.T) {
	for letters := 1; letters <= impl.MaxLetters; letters++ {
		for _, w := range typedWords(letters) {
			n, ok := impl.CountTextsWithout(letters, w, 0)
			mustCount(t, 1, n, ok, "without", letters, w)
			n, ok = impl.CountFirstTyped(letters, w, 0)
			mustCount(t, 0, n, ok, "first", letters, w)
			n, ok = impl.CountFirstTyped(letters, w, len(w))
			mustCount(t, 1, n, ok, "first", letters, w)
			n, ok = impl.CountTextsWithout(letters, w, len(w))
			mustCount(t, int(raised(letters, len(w)).Int64())-1, n, ok, "without", letters, w)
		}
	}
}
