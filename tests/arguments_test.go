package tests

import (
	"math"
	"reflect"
	"slices"
	"strings"
	"testing"
	"unsafe"

	"loop.example/g01337/impl"
)

// The tests of promise 11: every function accepts all arguments without panicking and modifies none of them.

// functions are the exported ones, but those of words, of hidden days, of stakes, of puzzles and of the console.
var functions = map[string]any{
	"IsChain": impl.IsChain, "AreDays": impl.AreDays, "ChanceNext": impl.ChanceNext, "ChanceOfDays": impl.ChanceOfDays,
	"ChanceLater": impl.ChanceLater, "LongShare": impl.LongShare, "ChanceOfAny": impl.ChanceOfAny, "MeanRun": impl.MeanRun,
	"ChanceOfRun": impl.ChanceOfRun, "MeanUntil": impl.MeanUntil, "MeanWets": impl.MeanWets, "LikeliestDays": impl.LikeliestDays,
	"RunsOf": impl.RunsOf, "CountChanges": impl.CountChanges, "ChainOfDays": impl.ChainOfDays, "TurnChain": impl.TurnChain,
	"IsEven": impl.IsEven, "ChainText": impl.ChainText, "ParseChain": impl.ParseChain,
	"AreStates": impl.AreStates, "ChanceOfStep": impl.ChanceOfStep, "StatesAfter": impl.StatesAfter, "ReachedStates": impl.ReachedStates,
	"StateClasses": impl.StateClasses, "IsOneClass": impl.IsOneClass, "LastingStates": impl.LastingStates, "EndStates": impl.EndStates,
	"PeriodOfState": impl.PeriodOfState, "MeanUntilState": impl.MeanUntilState, "ChanceToVisit": impl.ChanceToVisit, "ChanceToEnd": impl.ChanceToEnd,
	"SharesOfStates": impl.SharesOfStates, "CountWays": impl.CountWays, "FirstWay": impl.FirstWay, "RenameStates": impl.RenameStates,
	"StatesOfChain": impl.StatesOfChain, "StatesText": impl.StatesText, "ParseStates": impl.ParseStates,
	"IsCoin": impl.IsCoin, "IsPattern": impl.IsPattern, "ChanceOfPattern": impl.ChanceOfPattern, "OverlapsOf": impl.OverlapsOf,
	"MeanWait": impl.MeanWait, "MeanBetween": impl.MeanBetween, "CountWithout": impl.CountWithout, "CountFirstAt": impl.CountFirstAt,
	"ChanceBy": impl.ChanceBy, "AllWithout": impl.AllWithout, "PlacesOf": impl.PlacesOf, "FirstPlace": impl.FirstPlace,
	"MeanPlaces": impl.MeanPlaces, "LongestWait": impl.LongestWait, "ShortestWait": impl.ShortestWait, "TurnPattern": impl.TurnPattern,
	"BackPattern": impl.BackPattern, "CoinText": impl.CoinText, "ParseCoin": impl.ParseCoin,
	"AreRacers": impl.AreRacers, "LeadingNumber": impl.LeadingNumber, "ChanceFirst": impl.ChanceFirst, "MeanRace": impl.MeanRace,
	"WinnerOfRace": impl.WinnerOfRace, "CountWonAt": impl.CountWonAt, "CountOpen": impl.CountOpen, "DoesBeat": impl.DoesBeat,
	"BestAnswer": impl.BestAnswer, "BeatenBy": impl.BeatenBy, "AnswersFrom": impl.AnswersFrom, "HardestToBeat": impl.HardestToBeat,
	"EvenRaces": impl.EvenRaces, "TurnRace": impl.TurnRace, "AreManyRacers": impl.AreManyRacers, "WinnerOfMany": impl.WinnerOfMany,
	"CountManyWonAt": impl.CountManyWonAt, "CountManyOpen": impl.CountManyOpen,
	"AreManyTosses": impl.AreManyTosses, "FairByPairs": impl.FairByPairs, "FairAgain": impl.FairAgain, "PairsThatGive": impl.PairsThatGive,
	"ChanceToGive": impl.ChanceToGive, "MeanTosses": impl.MeanTosses, "MeanFair": impl.MeanFair, "RollOf": impl.RollOf, "RollsOf": impl.RollsOf,
	"MeanForRoll": impl.MeanForRoll, "RollKeeping": impl.RollKeeping, "RollsKeeping": impl.RollsKeeping, "MeanKeeping": impl.MeanKeeping,
	"UnfairOf": impl.UnfairOf, "UnfairTosses": impl.UnfairTosses, "ChanceOfAll": impl.ChanceOfAll, "SameFair": impl.SameFair,
}

// wordFunctions are called with words besides, which would be too many arguments for all functions.
var wordFunctions = map[string]any{
	"IsWord": impl.IsWord, "WordOverlaps": impl.WordOverlaps, "MeanTyped": impl.MeanTyped, "CountTextsWithout": impl.CountTextsWithout,
	"CountFirstTyped": impl.CountFirstTyped, "PlacesOfWord": impl.PlacesOfWord, "ShortestWithBoth": impl.ShortestWithBoth, "RootOfWord": impl.RootOfWord,
	"TurnWord": impl.TurnWord, "FirstTurn": impl.FirstTurn, "IsPrimeWord": impl.IsPrimeWord, "PrimeWords": impl.PrimeWords,
	"CountPrimeWords": impl.CountPrimeWords, "RingWithAll": impl.RingWithAll, "HasAllWords": impl.HasAllWords, "CountNecklaces": impl.CountNecklaces,
	"SameNecklace": impl.SameNecklace, "LongestTyped": impl.LongestTyped, "WordOfRank": impl.WordOfRank, "RankOfWord": impl.RankOfWord,
}

// hiddenFunctions are called with hidden days, days, signs and texts of hidden days, and with nothing else.
var hiddenFunctions = map[string]any{
	"IsHidden": impl.IsHidden, "AreSigns": impl.AreSigns, "ChanceBoth": impl.ChanceBoth, "ChanceOfSigns": impl.ChanceOfSigns,
	"ChanceOfDay": impl.ChanceOfDay, "ChanceOfHidden": impl.ChanceOfHidden, "LikeliestHidden": impl.LikeliestHidden, "CountPossible": impl.CountPossible,
	"FirstPossible": impl.FirstPossible, "ChanceOfNextSign": impl.ChanceOfNextSign, "LikeliestSigns": impl.LikeliestSigns, "MeanSigns": impl.MeanSigns,
	"DayByDay": impl.DayByDay, "DoSignsTell": impl.DoSignsTell, "TurnHidden": impl.TurnHidden, "HiddenText": impl.HiddenText, "ParseHidden": impl.ParseHidden,
}

// stakeFunctions are called with coins, stakes, tosses, texts of stakes and lists of stakes, and with numbers up to those of money.
var stakeFunctions = map[string]any{
	"AreStakes": impl.AreStakes, "ChanceOfGoal": impl.ChanceOfGoal, "ChanceOfRuin": impl.ChanceOfRuin, "MeanPlays": impl.MeanPlays,
	"BoldStake": impl.BoldStake, "BoldPath": impl.BoldPath, "BoldWithin": impl.BoldWithin, "TimidWithin": impl.TimidWithin, "MostWithin": impl.MostWithin,
	"BestStakes": impl.BestStakes, "PlayStakes": impl.PlayStakes, "MeanPurse": impl.MeanPurse, "IsFairPlay": impl.IsFairPlay,
	"CountRuins": impl.CountRuins, "CountGoals": impl.CountGoals, "CountInPlay": impl.CountInPlay, "NeededPurse": impl.NeededPurse,
	"TurnStakes": impl.TurnStakes, "StakesText": impl.StakesText, "ParseStakes": impl.ParseStakes,
}

// puzzleFunctions are called with clues, puzzles, chains, texts of puzzles, and indices, numbers of clues and seeds.
var puzzleFunctions = map[string]any{
	"IsClue": impl.IsClue, "IsPuzzle": impl.IsPuzzle, "DoesFit": impl.DoesFit, "Solutions": impl.Solutions, "CountSolutions": impl.CountSolutions,
	"FirstSolution": impl.FirstSolution, "SureChain": impl.SureChain, "IsSolved": impl.IsSolved, "NeedlessClues": impl.NeedlessClues,
	"DropClue": impl.DropClue, "AddClue": impl.AddClue, "LeftByClues": impl.LeftByClues, "BestClue": impl.BestClue, "HarderPuzzle": impl.HarderPuzzle,
	"MakePuzzle": impl.MakePuzzle, "PuzzleText": impl.PuzzleText, "ParsePuzzle": impl.ParsePuzzle,
}

// consoleFunctions are called with desks, lines and scripts. FirstDesk is not among them, as it takes no argument and
// never fails.
var consoleFunctions = map[string]any{
	"IsDesk": impl.IsDesk, "DeskLine": impl.DeskLine, "RunScript": impl.RunScript, "DeskAfter": impl.DeskAfter, "FailedLines": impl.FailedLines,
}

var badChains = []impl.Chain{
	{}, {Wets: 1, Dries: 2}, {Wets: 1, Dries: 2, Of: 11}, {Wets: 1, Dries: 2, Of: -4}, {Wets: 5, Dries: 2, Of: 4},
	{Wets: 1, Dries: 5, Of: 4}, {Wets: -1, Dries: 2, Of: 4}, {Wets: 1, Dries: -1, Of: 4}, {Wets: 11, Dries: 0, Of: 10},
	{Wets: math.MinInt, Dries: math.MinInt, Of: math.MinInt}, {Wets: math.MaxInt, Dries: math.MaxInt, Of: math.MaxInt},
	{Wets: math.MinInt, Dries: 1, Of: 10}, {Wets: 1, Dries: math.MaxInt, Of: 10}, {Wets: 1, Dries: 1, Of: math.MaxInt},
}

var badDays = []string{
	"", " ", "x", "D", "W", "h", "dx", "xd", "d w", "dw ", "dw\n", "\x00", "d\x00", "\xff", "\xe4\xf7", "dé", "ｄ",
	strings.Repeat("d", impl.MaxSeen+1), strings.Repeat("w", impl.MaxSeen+1), strings.Repeat("dw", 500),
}

// badDay are what is no day, though it may be days.
var badDay = append(slices.Clone(badDays), "dd", "dw", "ww", "ddwwwd", strings.Repeat("d", impl.MaxSeen))

var badCoins = []impl.Coin{
	{}, {Heads: 1}, {Heads: 1, Of: 1}, {Of: 1}, {Of: 2}, {Heads: 2, Of: 2}, {Heads: 3, Of: 2}, {Heads: -1, Of: 2}, {Of: 10}, {Heads: 10, Of: 10},
	{Heads: 1, Of: 11}, {Heads: 10, Of: 11}, {Heads: 1, Of: -2}, {Heads: -2, Of: -1}, {Heads: math.MinInt, Of: 2}, {Heads: math.MaxInt, Of: 2},
	{Heads: 1, Of: math.MinInt}, {Heads: 1, Of: math.MaxInt}, {Heads: math.MinInt, Of: math.MinInt}, {Heads: math.MaxInt, Of: math.MaxInt},
}

// badSigns are no tosses, however many of these there may be.
var badSigns = []string{
	" ", "x", "d", "w", "H", "T", "HT", "hx", "xh", "hxh", "h t", "ht ", " ht", "ht\n", "h,t", "\x00", "h\x00t", "\xff", "h\xfft", "\xe8\xf4", "hét", "ｈ",
}

// badTosses are no pattern either.
var badTosses = append(slices.Clone(badSigns), strings.Repeat("h", impl.MaxTosses+1), strings.Repeat("t", impl.MaxTosses+1), strings.Repeat("ht", 500))

var badManyTosses = append(slices.Clone(badSigns),
	strings.Repeat("h", impl.MaxFairTosses+1), strings.Repeat("t", impl.MaxFairTosses+1), strings.Repeat("ht", impl.MaxFairTosses/2)+"h",
	strings.Repeat("hth", 500), strings.Repeat("h", impl.MaxFairTosses-1)+"x", "x"+strings.Repeat("t", impl.MaxFairTosses-1), strings.Repeat("ht", impl.MaxFairTosses/2-1)+" t",
)

// badSides are of no die.
var badSides = []int{math.MinInt, -12, -1, 0, impl.MaxSides + 1, 16, 1 << 40, math.MaxInt}

// badPatterns are no patterns, though they may be tosses.
var badPatterns = append(slices.Clone(badTosses), "", "hhhhhhhhh", "ttttttttt", "hthththth", strings.Repeat("h", impl.MaxTosses))

// badRaceCoins may be coins.
var badRaceCoins = append(slices.Clone(badCoins), impl.Coin{Heads: 1, Of: 5}, impl.Coin{Heads: 4, Of: 5}, impl.Coin{Heads: 5, Of: 10}, impl.Coin{Heads: 9, Of: 10})

// badRacers have one sign more than racers, if they are patterns.
var badRacers = append(slices.Clone(badPatterns), "hhhhhh", "tttttt", "hththt", "thhhhh", "hhhhhhhh")

// badTexts have other signs than letters, or too many letters.
var badTexts = []string{
	" ", "A", "Z", "aB", "Ba", "a b", "ab ", " ab", "ab\n", "a-b", "a,b", "`", "{", "a`", "z{", "@", "[", "1", "\x00", "a\x00b", "\xff", "a\xffb", "\xe1\xe2", "aéb", "ａ",
	strings.Repeat("a", impl.MaxTyped+1), strings.Repeat("z", impl.MaxTyped+1), strings.Repeat("abc", 500), strings.Repeat("a", impl.MaxTyped-1) + "A",
}

// badWords may be texts.
var badWords = append(slices.Clone(badTexts), "", "aaaaaaaaa", "zzzzzzzzz", "abcdefghi", "abababababab", strings.Repeat("a", impl.MaxTyped))

// badLetters are of no alphabet.
var badLetters = []int{math.MinInt, -26, -1, 0, impl.MaxLetters + 1, 128, 1 << 40, math.MaxInt}

// badLongs are no numbers of letters of a word.
var badLongs = []int{math.MinInt, -8, -1, 0, impl.MaxWord + 1, impl.MaxTyped, 1 << 40, math.MaxInt}

// badUmbrellas are no signs, however many of these there may be.
var badUmbrellas = []string{
	" ", "x", "d", "w", "U", "N", "UN", "ux", "xu", "uxu", "u n", "un ", " un", "un\n", "u,n", "?", "ud", "\x00", "u\x00n", "\xff", "u\xffn", "\xf5\xee", "uén", "ｕ",
}

// badSignTexts are none either.
var badSignTexts = append(slices.Clone(badUmbrellas), "", "uuuuuuu", "nnnnnnn", "unnuunu", strings.Repeat("u", impl.MaxSeen), strings.Repeat("un", 500), "nnnnnnU", "uuuuux")

// badSign are what is no sign, though it may be signs.
var badSign = append(slices.Clone(badSignTexts), "uu", "nn", "un", "nu", "uuuuuu", "nnunnu")

// badHidden have a chain or umbrellas that are none.
func badHidden() []impl.Hidden {
	good := impl.Chain{Wets: 1, Dries: 2, Of: 4}
	var list []impl.Hidden
	for _, bad := range badChains {
		list = append(list, hidden(bad, good), hidden(good, bad), hidden(bad, bad))
	}
	return list
}

var badStakes = []impl.Stakes{
	{}, {Purse: 1}, {Purse: -1}, {Goal: -1}, {Purse: -1, Goal: -1}, {Purse: -1, Goal: 8}, {Purse: 9, Goal: 8}, {Purse: 2, Goal: 1}, {Purse: -1, Goal: 1},
	{Goal: impl.MaxPurse + 1}, {Purse: 8, Goal: impl.MaxPurse + 1}, {Purse: impl.MaxPurse + 1, Goal: impl.MaxPurse + 1}, {Purse: impl.MaxPurse + 1, Goal: impl.MaxPurse},
	{Purse: math.MinInt, Goal: 8}, {Purse: math.MaxInt, Goal: 8}, {Purse: 8, Goal: math.MinInt}, {Purse: 8, Goal: math.MaxInt}, {Goal: math.MaxInt}, {Goal: math.MinInt},
	{Purse: math.MinInt, Goal: math.MinInt}, {Purse: math.MaxInt, Goal: math.MaxInt}, {Purse: math.MinInt, Goal: math.MaxInt}, {Purse: math.MaxInt, Goal: math.MinInt},
}

// badStakesTexts are of no stakes, or are not written as they are told.
var badStakesTexts = []string{
	"", "of", "3", "8", "38", "3of", "of8", "3o8", "3f8", "3fo8", "3oof8", "3off8", "3ofof8", "3of8of", "of3of8", "3of8of8", "3OF8", "3Of8", "3/8", "3-8", "3,8", "3 8",
	"3 of 8", "3 of8", "3of 8", " 3of8", "3of8 ", "3of8\n", "\t3of8", "3of8\x00", "\x003of8", "\xff", "3of\xff", "\xb3of8", "３of8", "٣of٨", "3ｏｆ8",
	"03of8", "3of08", "00of8", "+3of8", "3of+8", "-0of8", "-3of8", "3of-8", "-3of-8", "0x3of8", "3of0x8", "3.0of8", "3of8.", "1_0of12", "3of1_0", "1e1of12", "3of1e1",
	"0of0", "1of0", "9of8", "0of17", "8of17", "17of17", "17of16", "99999999999999999999of8", "3of99999999999999999999", "9223372036854775808of8", "-9223372036854775808of16",
	"threeofeight", "hofh", "ht", strings.Repeat("3of8", 500), strings.Repeat("0", 500) + "3of8", "3of" + strings.Repeat("0", 500) + "8", strings.Repeat("of", 500),
}

var goodClues = []impl.Clue{
	{}, {B: 1}, {Kind: 1}, {Kind: 1, B: 3}, {Kind: 1, B: 100}, {Kind: 2}, {Kind: 2, B: 2}, {Kind: 2, B: 100}, {Kind: 5}, {Kind: 5, B: 6}, {Kind: 5, B: 100},
	{Kind: 3, B: 1}, {Kind: 3, A: 1, B: 3}, {Kind: 3, A: 2, B: 6}, {Kind: 3, A: 100, B: 1}, {Kind: 3, A: 100, B: 100},
	{Kind: 4, B: 1}, {Kind: 4, A: 4, B: 1}, {Kind: 4, A: 100, B: 1}, {Kind: 4, B: 100}, {Kind: 4, A: 100, B: 100},
}

// badClues have a kind that is none, or one number that is none of their kind.
var badClues = []impl.Clue{
	{Kind: -1}, {Kind: 6}, {Kind: -1, A: 1, B: 1}, {Kind: 6, A: 1, B: 1}, {Kind: 7, B: 1}, {Kind: 100, B: 1}, {Kind: math.MinInt}, {Kind: math.MaxInt},
	{B: -1}, {B: 2}, {B: 100}, {A: 1}, {A: -1}, {A: 1, B: 1}, {A: 100, B: 1}, {B: math.MinInt}, {B: math.MaxInt}, {A: math.MinInt}, {A: math.MaxInt, B: 1},
	{Kind: 1, B: -1}, {Kind: 1, B: 101}, {Kind: 1, A: 1}, {Kind: 1, A: -1, B: 3}, {Kind: 1, A: 1, B: 3}, {Kind: 1, B: math.MinInt}, {Kind: 1, B: math.MaxInt}, {Kind: 1, A: math.MaxInt, B: 3},
	{Kind: 2, B: -1}, {Kind: 2, B: 101}, {Kind: 2, A: 1}, {Kind: 2, A: -1, B: 3}, {Kind: 2, A: 1, B: 3}, {Kind: 2, B: math.MinInt}, {Kind: 2, B: math.MaxInt}, {Kind: 2, A: math.MinInt, B: 3},
	{Kind: 5, B: -1}, {Kind: 5, B: 101}, {Kind: 5, A: 1}, {Kind: 5, A: -1, B: 3}, {Kind: 5, A: 1, B: 3}, {Kind: 5, B: math.MinInt}, {Kind: 5, B: math.MaxInt}, {Kind: 5, A: math.MaxInt, B: 3},
	{Kind: 3}, {Kind: 3, A: 1}, {Kind: 3, A: 1, B: -3}, {Kind: 3, A: -1, B: 3}, {Kind: 3, A: -1, B: -3}, {Kind: 3, A: 1, B: 101}, {Kind: 3, A: 101, B: 1}, {Kind: 3, A: 101, B: 101},
	{Kind: 3, A: math.MinInt, B: 3}, {Kind: 3, A: math.MaxInt, B: 3}, {Kind: 3, A: 1, B: math.MinInt}, {Kind: 3, A: 1, B: math.MaxInt}, {Kind: 3, A: math.MinInt, B: math.MinInt},
	{Kind: 4}, {Kind: 4, A: 4}, {Kind: 4, A: 4, B: -1}, {Kind: 4, A: -4, B: 1}, {Kind: 4, A: -4, B: -1}, {Kind: 4, A: 4, B: 101}, {Kind: 4, A: 101, B: 1}, {Kind: 4, A: 101, B: 101},
	{Kind: 4, A: math.MinInt, B: 1}, {Kind: 4, A: math.MaxInt, B: 1}, {Kind: 4, A: 4, B: math.MinInt}, {Kind: 4, A: 4, B: math.MaxInt}, {Kind: 4, A: math.MaxInt, B: math.MaxInt},
}

// goodPuzzles are made anew each time: some have room behind their clues.
func goodPuzzles() []impl.Puzzle {
	return []impl.Puzzle{
		{Of: 1}, {Of: 8}, {Of: 4, Clues: []impl.Clue{}}, {Of: 4, Clues: slices.Clone(badClues)[:0]}, {Of: 1, Clues: []impl.Clue{{B: 1}}}, {Of: 2, Clues: []impl.Clue{{B: 1}}},
		{Of: 4, Clues: []impl.Clue{{Kind: 3, A: 1, B: 3}, {Kind: 1, B: 3}}}, {Of: 3, Clues: []impl.Clue{{Kind: 3, A: 1, B: 3}, {Kind: 4, A: 3, B: 2}}},
		{Of: 4, Clues: []impl.Clue{{Kind: 3, A: 1, B: 3}, {Kind: 1, B: 3}, {B: 1}, {Kind: 77}, {Kind: 88}}[:3]},
		{Of: 4, Clues: []impl.Clue{{B: 1}, {Kind: 3, A: 1, B: 3}, {Kind: 1, B: 3}, {B: 1}, {Kind: 77}, {Kind: 88}}[:4]},
		{Of: 8, Clues: slices.Repeat([]impl.Clue{{Kind: 1, B: 16}}, impl.MaxClues)}, {Of: 8, Clues: slices.Repeat([]impl.Clue{{Kind: 4, A: 100, B: 100}}, impl.MaxClues)},
		{Of: 8, Clues: append(slices.Repeat([]impl.Clue{{}}, impl.MaxClues), impl.Clue{Kind: 88})[:impl.MaxClues]},
	}
}

// badPuzzles are made anew each time, too.
func badPuzzles() []impl.Puzzle {
	good := []impl.Clue{{Kind: 3, A: 1, B: 3}, {Kind: 1, B: 3}, {B: 1}, {}, {Kind: 2, B: 2}}
	list := []impl.Puzzle{
		{}, {Clues: good[:1]}, {Of: 8, Clues: slices.Repeat(good[:1], impl.MaxClues+1)}, {Of: 8, Clues: make([]impl.Clue, 3000)},
		// There is no solution before the clue that is none.
		{Of: 1, Clues: []impl.Clue{{B: 1}, {}, {Kind: 6}}}, {Of: 3, Clues: []impl.Clue{{Kind: 3, A: 1, B: 3}, {Kind: 4, A: 3, B: 2}, {Kind: 4, A: 3}}},
	}
	for _, of := range []int{math.MinInt, -4, -1, 0, impl.MaxHidden + 1, impl.MaxOf, impl.MaxOf + 1, 1 << 40, math.MaxInt} {
		list = append(list, impl.Puzzle{Of: of}, impl.Puzzle{Of: of, Clues: slices.Clone(good)})
	}
	for _, c := range badClues {
		list = append(list, impl.Puzzle{Of: 4, Clues: []impl.Clue{c}}, impl.Puzzle{Of: 4, Clues: append([]impl.Clue{c}, good...)}, impl.Puzzle{Of: 4, Clues: append(slices.Clone(good), c)})
	}
	return list
}

// badPuzzleTexts are of no puzzle, or are not written as they are told.
var badPuzzleTexts = []string{
	"", ":", "4", "4.", "4,", "4;", ":3.1.3", "3.1.3", "4:3.1.3,", "4:,3.1.3", "4:,", "4:3.1.3,,1.0.3", "4:3.1.3,1.0.3,", "4::", "4::3.1.3", "4:3.1.3:", "4:3.1.3:1.0.3", "4:3.1.3;1.0.3",
	"4:.", "4:..", "4:3", "4:3.1", "4:3.1.", "4:3..3", "4:.1.3", "4:3.1.3.", "4:3.1.3.0", "4:.3.1.3", "4:3,1,3", "4:3-1-3", "4:3.1/3", "4:1.3", "4:1..3", "4:1.0.3.1.0.3", "4:1.0.31.0.3",
	" 4:1.0.3", "4 :1.0.3", "4: 1.0.3", "4:1.0.3 ", "4:1. 0.3", "4:1.0.3, 1.0.3", "4:1.0.3\n", "\n4:", "4:\n", "4:1.0.3\x00", "4:\x00", "\xff", "\xff:", "4:\xff.0.3", "４:1.0.3", "4:1.0.٣", "4：1.0.3",
	"04:", "+4:", "-4:", "4.0:", "0x4:", "1e0:", "4:01.0.3", "4:1.00.3", "4:1.0.03", "4:+1.0.3", "4:1.+0.3", "4:1.-0.3", "4:1.0.+3", "4:-0.0.1", "4:0.0.0_1", "4:1.0.3e0", "four:",
	"0:", "9:", "10:", "-1:", "9:1.0.3", "0:0.0.0", "4:6.0.0", "4:-1.0.0", "4:0.0.2", "4:0.1.1", "4:0.0.-1", "4:1.1.3", "4:1.0.101", "4:2.1.2", "4:2.0.101", "4:5.1.6", "4:5.0.101",
	"4:3.1.0", "4:3.0.0", "4:3.101.3", "4:3.1.101", "4:3.-1.3", "4:3.1.-3", "4:4.4.0", "4:4.101.1", "4:4.4.101", "4:4.-4.1", "4:3.1.3,6.0.0", "4:6.0.0,3.1.3",
	"99999999999999999999:", "18446744073709551620:", "4:1.0.99999999999999999999", "4:1.0.18446744073709551619", "4:18446744073709551617.0.3", "4:1.18446744073709551616.3",
	"4:0.0.1,0.0.1,0.0.1,0.0.1,0.0.1,0.0.1,0.0.1", "4:" + strings.Repeat("0.0.1,", 6), "4:" + strings.Repeat("0.0.1,", 3000) + "0.0.1", "4:" + strings.Repeat(",", 3000), strings.Repeat("4:", 500),
	strings.Repeat("0", 500) + "4:", "4:1.0." + strings.Repeat("0", 500) + "3", "1-2/4", "1/2", "3of8", "2;1,1;1",
}

// badScripts miss the newline of their last line, or have too many lines or bytes.
var badScripts = []string{
	"show", "show\nshow", "\nshow", "show\n\x00", "show\n ", "show\r", " ", "\x00", "\xff", "fly", "turn\nturn\nturn", strings.Repeat("\n", impl.MaxLines-1) + "show", strings.Repeat("\n", impl.MaxLines) + "show",
	strings.Repeat("\n", impl.MaxLines+1), strings.Repeat("turn\n", impl.MaxLines+1), strings.Repeat("\n", impl.MaxScript), strings.Repeat("\n", impl.MaxScript+1), strings.Repeat("turn\n", 500),
	strings.Repeat("x", impl.MaxScript), strings.Repeat("x", impl.MaxScript) + "\n", strings.Repeat(" ", impl.MaxScript) + "\n", "show\n" + strings.Repeat("x", impl.MaxScript-5) + "\n",
	strings.Repeat("x", impl.MaxScript+1), strings.Repeat(strings.Repeat("x", impl.MaxScript/impl.MaxLines-1)+"\n", impl.MaxLines-1) + strings.Repeat("x", impl.MaxScript/impl.MaxLines) + "\n",
}

// badLines have a newline, or too many bytes.
var badLines = []string{
	"\n", "\n\n", "show\n", "\nshow", "sh\now", "show\nshow", "turn\nturn\n", "days d\nw", "fair \n", "fair ht\n", "chain 1-2/4\n", "fly\n", "\r\n", "\x00\n",
	strings.Repeat("x", impl.MaxScript+1), strings.Repeat(" ", impl.MaxScript+1), "fair " + strings.Repeat("h", impl.MaxScript-4), strings.Repeat("x", impl.MaxScript-1) + "\n", strings.Repeat("turn ", 2000),
}

// badDesks have one part or several that are none.
func badDesks() []impl.Desk {
	first := impl.FirstDesk()
	list := []impl.Desk{{}, {Chain: first.Chain}, {Coin: first.Coin}, {Hidden: first.Hidden}}
	for _, c := range badChains {
		list = append(list, impl.Desk{Chain: c, Coin: first.Coin, Hidden: first.Hidden}, impl.Desk{Chain: c})
	}
	for _, c := range badCoins {
		list = append(list, impl.Desk{Chain: first.Chain, Coin: c, Hidden: first.Hidden}, impl.Desk{Coin: c})
	}
	for _, h := range badHidden() {
		list = append(list, impl.Desk{Chain: first.Chain, Coin: first.Coin, Hidden: h}, impl.Desk{Chain: h.Chain, Coin: first.Coin, Hidden: h})
	}
	return list
}

func goodLists() [][]string {
	return [][]string{
		{"h", "t"}, {"t", "h"}, {"thh", "hhh"}, {"hh", "ht", "th"}, {"tt", "ht", "th", "hh"}, {"hhhhh", "thhhh"},
		[]string{"hhhhh", "thhhh", "ttttt", "hthth", "spare"}[:4], []string{"hth", "thh", "spare", "hth"}[:2],
	}
}

func badLists() [][]string {
	lists := [][]string{
		nil, {}, {""}, {"h"}, {"hhh"}, {"", ""}, {"h", ""}, {"", "h"}, {"h", "h"}, {"hth", "hth"}, {"h", "tt"}, {"tt", "h"}, {"hh", "tt", "h"}, {"hh", "t", "tt"},
		{"hh", "tt", "hh"}, {"hh", "tt", "tt"}, {"hh", "ht", "tt", "ht"}, {"h", "t", "h"}, {"h", "x"}, {"x", "h"}, {"h", "T"}, {"hh", "tt", "hx"}, {"hh", "ht", "th", "\xff\xff"},
		{"hhh", "hht", "hth", "htt", "thh"}, {"hhhhh", "hhhht", "hhhth", "hhhtt", "hhthh"}, {"hhhhhh", "tttttt"}, {"hhhhhhhh", "tttttttt"},
		[]string{"hh", "tt", "ht"}[:1], []string{"hh", "hh", "ht"}[:2], make([]string, 3000), {strings.Repeat("h", 5000), strings.Repeat("t", 5000)},
	}
	for _, p := range badRacers {
		lists = append(lists, []string{p, strings.Repeat("t", len(p))}, []string{strings.Repeat("h", len(p)), p}, []string{"hh", "tt", "ht", p})
	}
	return lists
}

// badStates are made anew each time, so that no test can spoil another one.
func badStates() []impl.States {
	list := []impl.States{
		{}, {Of: 1}, {Of: 1, Rows: [][]int{}}, {Of: 1, Rows: [][]int{nil}}, {Of: 1, Rows: [][]int{{}}}, {Rows: [][]int{{0}}}, {Rows: [][]int{{1}}},
		{Of: 1, Rows: [][]int{{2}}}, {Of: 2, Rows: [][]int{{1}}}, {Of: 11, Rows: [][]int{{11}}}, {Of: -1, Rows: [][]int{{-1}}}, {Of: 1, Rows: [][]int{{1}, {1}}},
		{Of: 2, Rows: [][]int{{1, 1}}}, {Of: 2, Rows: [][]int{{1, 1}, nil}}, {Of: 2, Rows: [][]int{{1, 1}, {2}}}, {Of: 2, Rows: [][]int{{1, 1}, {1, 1, 0}}},
		{Of: 2, Rows: [][]int{{1, 1}, {1, 0}}}, {Of: 2, Rows: [][]int{{1, 1}, {1, 2}}}, {Of: 2, Rows: [][]int{{3, -1}, {1, 1}}}, {Of: 2, Rows: [][]int{{1, 1}, {-1, 3}}},
		{Of: 2, Rows: [][]int{{1, 1, 0}, {1, 1, 0}}}, {Of: math.MaxInt, Rows: [][]int{{math.MaxInt}}}, {Of: math.MinInt, Rows: [][]int{{math.MinInt}}},
		// The sums of these overflow to 2.
		{Of: 2, Rows: [][]int{{math.MaxInt, math.MaxInt, 4}, {1, 1, 0}, {1, 1, 0}}}, {Of: 2, Rows: [][]int{{math.MinInt, math.MinInt, 2}, {1, 1, 0}, {1, 1, 0}}},
	}
	six, many := impl.States{Of: 1}, impl.States{Of: 1}
	for range 6 {
		six.Rows = append(six.Rows, []int{1, 0, 0, 0, 0, 0})
	}
	for range 40 {
		many.Rows = append(many.Rows, make([]int, 40))
	}
	return append(list, six, many)
}

func goodStates() []impl.States {
	same := []int{1, 2}
	roomy := [][]int{{1, 1, 0, 88, 88}, {1, 0, 1, 88}, {0, 0, 2}, {88, 88, 88}}[:3]
	roomy[0], roomy[1] = roomy[0][:3], roomy[1][:3]
	return []impl.States{
		{Of: 1, Rows: [][]int{{1}}}, {Of: 10, Rows: [][]int{{10}}}, {Of: 3, Rows: [][]int{same, same}}, {Of: 2, Rows: roomy},
		{Of: 1, Rows: [][]int{{0, 1}, {1, 0}}}, {Of: 10, Rows: [][]int{{3, 7, 0, 0, 0}, {0, 0, 10, 0, 0}, {4, 0, 0, 6, 0}, {0, 0, 0, 5, 5}, {0, 0, 0, 9, 1}}},
	}
}

func pools() map[reflect.Type][]reflect.Value {
	p := map[reflect.Type][]reflect.Value{}
	add := func(v any) { p[reflect.TypeOf(v)] = append(p[reflect.TypeOf(v)], reflect.ValueOf(v)) }
	for _, c := range badChains {
		add(c)
	}
	for _, c := range []impl.Chain{{Of: 1}, {Wets: 10, Dries: 10, Of: 10}, {Dries: 3, Of: 5}, {Wets: 3, Of: 5}, {Wets: 1, Dries: 2, Of: 4}} {
		add(c)
	}
	for _, s := range badDay {
		add(s)
	}
	for _, s := range []string{"d", "w", strings.Repeat("w", 8), strings.Repeat("dw", 5), strings.Repeat("d", 9), "1-2/4", "10-10/10", "1-2/11", "-/", "--//"} {
		add(s)
	}
	for _, s := range []string{"2;1,1,0;1,0,1;0,0,2", "10;10", "2;1,1;1", "11;11", ";,", "1;1,0;-0,1"} {
		add(s)
	}
	for _, c := range append(slices.Clone(badCoins), impl.Coin{Heads: 1, Of: 2}, impl.Coin{Heads: 1, Of: 3}, impl.Coin{Heads: 9, Of: 10}) {
		add(c)
	}
	for _, s := range []string{"H", "hxh", "ht ", "t", "hh", "hth", "hhhhhhhh", "hthththth", strings.Repeat("ht", 20), strings.Repeat("ht", 20) + "h", "1/2", "9/10", "10/10"} {
		add(s)
	}
	for _, s := range append(badStates(), goodStates()...) {
		add(s)
	}
	for _, list := range [][]int{
		nil, {0}, {1}, {-1}, {1, 0}, {0, 1}, {0, 0}, {0, 2}, {2, 0, 1}, []int{2, 0, 1, 88, 88}[:3], {0, 1, 3}, {0, 1, 1}, {4, 3, 2, 1, 0}, {4, 3, 2, 1, 5},
		{math.MinInt, math.MaxInt}, {0, 1, 2, 3, 4, 5}, make([]int, 3000),
	} {
		add(list)
	}
	for _, s := range []string{"thh", "hhhhh", "thhhh", "hhhhhh", "hhthtt", strings.Repeat("tth", 66) + "ht", strings.Repeat("tth", 67)} {
		add(s)
	}
	for _, list := range append(goodLists(), badLists()...) {
		add(list)
	}
	for _, n := range []int{math.MinInt, -1, 0, 1, 2, 4, 5, 7, 8, 9, 12, 13, 30, 31, 40, 41, 60, 61, 200, 201, 1 << 40, math.MaxInt} {
		add(n)
	}
	return p
}

// wordPools are numbers and texts alone.
func wordPools() map[reflect.Type][]reflect.Value {
	p := map[reflect.Type][]reflect.Value{}
	add := func(v any) { p[reflect.TypeOf(v)] = append(p[reflect.TypeOf(v)], reflect.ValueOf(v)) }
	for _, s := range badWords {
		add(s)
	}
	for _, s := range []string{
		"a", "b", "z", "aa", "ab", "ba", "zz", "aab", "aba", "bab", "abab", "baba", "aabaab", "abcdefg", "aaaaaaaa", "abababab", "abcdefgh", "zzzzzzzz", "tuvwxyz",
		"aaababbb", "aaababba", "aaaabaabbababbbb", "aabacbbcc", allLetters, allLetters[:25] + "a", strings.Repeat("ab", impl.MaxTyped/2),
	} {
		add(s)
	}
	for _, size := range ringSizes() {
		if size[0] > 1 && size[1] > 1 {
			ring, _ := impl.RingWithAll(size[0], size[1])
			add(ring)
			add(ring[1:])
		}
	}
	for _, n := range []int{math.MinInt, -26, -1, 0, 1, 2, 3, 4, 5, 7, 8, 9, 15, 16, 17, 18, 25, 26, 27, 30, 31, 255, 256, 300, 301, 208827064575, 208827064576, math.MaxInt} {
		add(n)
	}
	return p
}

// hiddenPools are hidden days, numbers and texts alone.
func hiddenPools() map[reflect.Type][]reflect.Value {
	p := map[reflect.Type][]reflect.Value{}
	add := func(v any) { p[reflect.TypeOf(v)] = append(p[reflect.TypeOf(v)], reflect.ValueOf(v)) }
	for _, h := range badHidden() {
		add(h)
	}
	for _, c := range []impl.Chain{{Of: 1}, {Wets: 3, Dries: 7, Of: 10}, {Wets: 2, Dries: 2, Of: 2}} {
		for _, umbrellas := range []impl.Chain{{Of: 1}, {Dries: 10, Of: 10}, {Wets: 3, Dries: 9, Of: 10}, {Wets: 2, Dries: 2, Of: 3}} {
			add(hidden(c, umbrellas))
		}
	}
	for _, s := range []string{
		"", " ", "x", "U", "D", "ux", "un ", "dn", "\x00", "\xff", "\xf5", "ｕ", "uuuuuuu", "ddddddd", "wwwwwwww", strings.Repeat("un", 500), strings.Repeat("d", impl.MaxSeen+1),
		"u", "n", "nu", "uuuuuu", "nnunnu", "d", "w", "dw", "wwwwww", "ddwddw", "1-2/4:0-1/2", "10-10/10:10-10/10", "1-2/4:", ":0-1/2", "::", "1-2/4:0-1/2:0-1/2",
	} {
		add(s)
	}
	for _, n := range []int{math.MinInt, -1, 0, 1, 5, 6, 7, 8, math.MaxInt} {
		add(n)
	}
	return p
}

// stakePools have coins, stakes, numbers, texts and lists of numbers.
func stakePools() map[reflect.Type][]reflect.Value {
	p := map[reflect.Type][]reflect.Value{}
	add := func(v any) { p[reflect.TypeOf(v)] = append(p[reflect.TypeOf(v)], reflect.ValueOf(v)) }
	for _, c := range append(slices.Clone(badCoins), impl.Coin{Heads: 1, Of: 2}, impl.Coin{Heads: 1, Of: 3}, impl.Coin{Heads: 9, Of: 10}) {
		add(c)
	}
	for _, s := range append(slices.Clone(badStakes), []impl.Stakes{
		{Goal: 1}, {Purse: 1, Goal: 1}, {Purse: 1, Goal: 2}, {Goal: 8}, {Purse: 3, Goal: 8}, {Purse: 8, Goal: 8}, {Goal: 16}, {Purse: 8, Goal: 16}, {Purse: 15, Goal: 16}, {Purse: 16, Goal: 16},
	}...) {
		add(s)
	}
	for _, s := range append(slices.Clone(badTosses), "", "h", "t", "htt", "hthhttth", strings.Repeat("ht", impl.MaxTosses/2), "3of8", "0of1", "16of16", "17of17", "03of8", "of") {
		add(s)
	}
	for _, list := range [][]int{
		nil, {}, {0}, {1}, {-1}, {2, 1}, {3, 2, 1}, {3, 3, 3}, []int{1, 1, 1, 88, 88}[:3], []int{3, 2, 99}[:0], {1, 0}, {1, -1}, {3, 99}, {8, 8, 8}, {math.MinInt}, {math.MaxInt}, {1, math.MinInt},
		slices.Repeat([]int{1}, impl.MaxStakes), slices.Repeat([]int{1}, impl.MaxStakes+1), slices.Repeat([]int{-1}, impl.MaxStakes), make([]int, 3000),
	} {
		add(list)
	}
	for _, n := range []int{math.MinInt, -1, 0, 1, 2, 3, 6, 7, 8, 16, 17, 30, 31, 1000, 1001, 1 << 40, math.MaxInt} {
		add(n)
	}
	return p
}

// puzzlePools have clues, puzzles, chains, numbers and texts.
func puzzlePools() map[reflect.Type][]reflect.Value {
	p := map[reflect.Type][]reflect.Value{}
	add := func(v any) { p[reflect.TypeOf(v)] = append(p[reflect.TypeOf(v)], reflect.ValueOf(v)) }
	for _, c := range append(slices.Clone(goodClues), badClues...) {
		add(c)
	}
	for _, q := range append(goodPuzzles(), badPuzzles()...) {
		add(q)
	}
	for _, c := range append(slices.Clone(badChains), []impl.Chain{
		{Of: 1}, {Wets: 1, Of: 1}, {Wets: 2, Dries: 1, Of: 4}, {Dries: 3, Of: 5}, {Wets: 3, Of: 5}, {Of: 8}, {Wets: 8, Dries: 8, Of: 8}, {Wets: 2, Dries: 1, Of: 9}, {Wets: 10, Dries: 10, Of: 10},
	}...) {
		add(c)
	}
	for _, s := range append(slices.Clone(badPuzzleTexts), "1:", "8:", "4:3.1.3,1.0.3", "3:3.1.3,4.3.2", "2:0.0.1", "8:4.100.100,4.100.100,4.100.100,4.100.100,4.100.100,4.100.100") {
		add(s)
	}
	for _, n := range []int{math.MinInt, -1, 0, 1, 2, 3, 4, 5, 6, 7, 8, 9, 100, 101, 9998, 9999, 10000, 10006, 10007, 1 << 40, math.MaxInt} {
		add(n)
	}
	return p
}

// consolePools have desks, lines and scripts.
func consolePools() map[reflect.Type][]reflect.Value {
	p := map[reflect.Type][]reflect.Value{}
	add := func(v any) { p[reflect.TypeOf(v)] = append(p[reflect.TypeOf(v)], reflect.ValueOf(v)) }
	third := impl.Chain{Wets: 1, Dries: 3, Of: 3}
	for _, d := range append(badDesks(), []impl.Desk{
		impl.FirstDesk(), {Chain: third, Coin: impl.Coin{Heads: 1, Of: 3}, Hidden: hidden(third, third)}, {Chain: impl.Chain{Of: 10}, Coin: impl.Coin{Heads: 9, Of: 10}, Hidden: hidden(third, impl.Chain{Of: 1})},
	}...) {
		add(d)
	}
	for _, s := range append(slices.Clone(badScripts), badLines...) {
		add(s)
	}
	for _, lines := range manyScripts()[:100] {
		add(strings.Join(lines, "\n"))
		add(strings.Join(append(lines, ""), "\n"))
	}
	lines := append(someLines(), "", " ", "fly", "places hh ", "roll 6 ", "later d w", "later d w 999999", "later d w 1000000", "chain 1-2/11", "h", "1-2/4", "\xff\xfe", "fair \xff", strings.Repeat(" ", impl.MaxScript), strings.Repeat("x", impl.MaxScript))
	for i, line := range lines {
		if i%7 == 0 || i > len(lines)-20 {
			add(line)
			add(line + "\n")
		}
	}
	return p
}

// everyCall calls f with all lists of arguments of its types.
func everyCall(f reflect.Type, pool map[reflect.Type][]reflect.Value, args []reflect.Value, do func([]reflect.Value)) {
	if len(args) == f.NumIn() {
		do(slices.Clone(args))
		return
	}
	for _, v := range pool[f.In(len(args))] {
		everyCall(f, pool, append(args, v), do)
	}
}

// cluesIn are those of a puzzle.
func cluesIn(v reflect.Value) []impl.Clue {
	p, _ := v.Interface().(impl.Puzzle)
	return p.Clues
}

// lists are all lists of numbers in a value.
func lists(v reflect.Value) [][]int {
	switch x := v.Interface().(type) {
	case []int:
		return [][]int{x}
	case [][]int:
		return x
	case impl.States:
		return x.Rows
	}
	return nil
}

// plain copies values out, with the bytes of their texts and numbers of their lists.
func plain(values []reflect.Value) []any {
	var copied []any
	for _, v := range values {
		switch x := v.Interface().(type) {
		case string:
			copied = append(copied, strings.Clone(x))
		case impl.States:
			copied = append(copied, x.Of, numbersOf(lists(v)))
		case []int, [][]int:
			copied = append(copied, numbersOf(lists(v)))
		case []string:
			copied = append(copied, append([]string{}, x...))
		case impl.Puzzle:
			copied = append(copied, x.Of, append([]impl.Clue{}, x.Clues...))
		case []impl.Chain:
			copied = append(copied, append([]impl.Chain{}, x...))
		default:
			copied = append(copied, x)
		}
	}
	return copied
}

func numbersOf(rows [][]int) [][]int {
	copied := [][]int{}
	for _, r := range rows {
		copied = append(copied, append([]int{}, r...))
	}
	return copied
}

// spare copies out what lies behind the lengths of lists.
func spare(values []reflect.Value) []any {
	var copied []any
	for _, v := range values {
		if texts, ok := v.Interface().([]string); ok {
			copied = append(copied, slices.Clone(texts[:cap(texts)]))
		}
		if clues := cluesIn(v); clues != nil {
			copied = append(copied, slices.Clone(clues[:cap(clues)]))
		}
		rows := lists(v)
		for _, r := range rows[:cap(rows)] {
			if r != nil {
				copied = append(copied, slices.Clone(r[:cap(r)]))
			}
		}
	}
	return copied
}

// allZero tells whether all results before the last one are zero, an empty list being like nil.
func allZero(results []reflect.Value) bool {
	for _, r := range results[:len(results)-1] {
		if s, ok := r.Interface().(impl.States); ok && s.Of == 0 && len(s.Rows) == 0 {
			continue
		}
		if p, ok := r.Interface().(impl.Puzzle); ok && p.Of == 0 && len(p.Clues) == 0 {
			continue
		}
		if !r.IsZero() && !(r.Kind() == reflect.Slice && r.Len() == 0) {
			return false
		}
	}
	return true
}

// scribble fills each list of the results with a number of its own, as far as its memory goes, and tells whether it stays there.
// Lists of texts, of clues and of chains, of which no result has two, are filled for the next call, which must not give
// the same memory out.
func scribble(results []reflect.Value) bool {
	var all [][]int
	for _, r := range results {
		if texts, ok := r.Interface().([]string); ok {
			for i := range texts[:cap(texts)] {
				texts[:cap(texts)][i] = "scribbled"
			}
		}
		clues := cluesIn(r)
		for i := range clues[:cap(clues)] {
			clues[:cap(clues)][i] = impl.Clue{Kind: -77, A: -77, B: -77}
		}
		chains, _ := r.Interface().([]impl.Chain)
		for i := range chains[:cap(chains)] {
			chains[:cap(chains)][i] = impl.Chain{Wets: -77, Dries: -77, Of: -77}
		}
		rows := lists(r)
		all = append(all, rows[:cap(rows)]...)
	}
	for k, list := range all {
		for i := range list[:cap(list)] {
			list[:cap(list)][i] = -77 - k
		}
	}
	for k, list := range all {
		for _, n := range list[:cap(list)] {
			if n != -77-k {
				return false
			}
		}
	}
	return true
}

// ownTexts gives each text memory of its own, so that a result in the same memory can only come from it.
func ownTexts(args []reflect.Value) {
	for i, v := range args {
		if v.Kind() == reflect.String {
			args[i] = reflect.ValueOf(strings.Clone(v.String()))
		}
	}
}

// sharesText tells whether a text of the results is in the memory of one of the arguments.
func sharesText(results, args []reflect.Value) bool {
	for _, r := range results {
		texts, _ := r.Interface().([]string)
		if r.Kind() == reflect.String {
			texts = []string{r.String()}
		}
		for _, text := range texts {
			for _, v := range args {
				if v.Kind() == reflect.String && isWithin(text, v.String()) {
					return true
				}
			}
		}
	}
	return false
}

func isWithin(text, whole string) bool {
	if text == "" || whole == "" {
		return false
	}
	first, from := uintptr(unsafe.Pointer(unsafe.StringData(text))), uintptr(unsafe.Pointer(unsafe.StringData(whole)))
	return first >= from && first < from+uintptr(len(whole))
}

func TestPromise11EveryFunctionAcceptsAllArguments(t *testing.T) {
	mustAcceptAll(t, functions, pools())
}

func TestPromise11EveryFunctionOfWordsAcceptsAllArguments(t *testing.T) {
	mustAcceptAll(t, wordFunctions, wordPools())
}

func TestPromise11EveryFunctionOfHiddenDaysAcceptsAllArguments(t *testing.T) {
	mustAcceptAll(t, hiddenFunctions, hiddenPools())
}

func TestPromise11EveryFunctionOfStakesAcceptsAllArguments(t *testing.T) {
	mustAcceptAll(t, stakeFunctions, stakePools())
}

func TestPromise11EveryFunctionOfPuzzlesAcceptsAllArguments(t *testing.T) {
	mustAcceptAll(t, puzzleFunctions, puzzlePools())
}

func TestPromise11EveryFunctionOfTheConsoleAcceptsAllArguments(t *testing.T) {
	mustAcceptAll(t, consoleFunctions, consolePools())
}

func mustAcceptAll(t *testing.T, called map[string]any, pool map[reflect.Type][]reflect.Value) {
	for name, f := range called {
		t.Run(name, func(t *testing.T) {
			fine, failed := 0, 0
			v := reflect.ValueOf(f)
			everyCall(v.Type(), pool, nil, func(args []reflect.Value) {
				ownTexts(args)
				before, behind := plain(args), spare(args)
				defer func() {
					if r := recover(); r != nil {
						t.Fatalf("%s %.300v panics: %v", name, before, r)
					}
				}()
				first := v.Call(args)
				told := plain(first)
				if first[len(first)-1].Bool() {
					fine++
				} else if failed++; !allZero(first) {
					t.Fatal(name, before, "fails with", told)
				}
				if sharesText(first, args) {
					t.Fatal(name, before, "gives a text of its arguments out")
				}
				if !scribble(first) {
					t.Fatal(name, before, "gives lists that share memory")
				}
				if !reflect.DeepEqual(before, plain(args)) || !reflect.DeepEqual(behind, spare(args)) {
					t.Fatal(name, "changes", before, "to", plain(args))
				}
				if again := plain(v.Call(args)); !reflect.DeepEqual(told, again) {
					t.Fatal(name, before, "is first", told, "and then", again)
				}
			})
			if fine == 0 || failed == 0 {
				t.Fatal(name, "succeeds", fine, "times and fails", failed, "times")
			}
		})
	}
}

func mustNotTell(t *testing.T, f any, args ...any) {
	t.Helper()
	var in []reflect.Value
	for _, a := range args {
		in = append(in, reflect.ValueOf(a))
	}
	out := reflect.ValueOf(f).Call(in)
	if out[len(out)-1].Bool() || !allZero(out) {
		t.Errorf("%.200v of %.200v does not fail", plain(out), args)
	}
}

func TestNoChains(t *testing.T) {
	for _, c := range badChains {
		mustNotTell(t, impl.IsChain, c)
		mustNotTell(t, impl.ChanceNext, c, "d", "w")
		mustNotTell(t, impl.ChanceOfDays, c, "dw")
		mustNotTell(t, impl.ChanceLater, c, "d", "w", 2)
		mustNotTell(t, impl.LongShare, c, "d")
		mustNotTell(t, impl.ChanceOfAny, c, "dw")
		mustNotTell(t, impl.MeanRun, c, "d")
		mustNotTell(t, impl.ChanceOfRun, c, "d", 2)
		mustNotTell(t, impl.MeanUntil, c, "d", "w")
		mustNotTell(t, impl.MeanWets, c, "d", 2)
		mustNotTell(t, impl.LikeliestDays, c, "d", 2)
		mustNotTell(t, impl.TurnChain, c)
		mustNotTell(t, impl.IsEven, c)
		mustNotTell(t, impl.ChainText, c)
		mustNotTell(t, impl.StatesOfChain, c)
	}
	for _, c := range allChains() {
		if !impl.IsChain(c) {
			t.Error("no chain", c)
		}
	}
}

func TestNoDays(t *testing.T) {
	c := impl.Chain{Wets: 1, Dries: 2, Of: 4}
	for _, s := range badDays {
		mustNotTell(t, impl.AreDays, s)
		mustNotTell(t, impl.ChanceOfDays, c, s)
		mustNotTell(t, impl.ChanceOfAny, c, s)
		mustNotTell(t, impl.RunsOf, s)
		mustNotTell(t, impl.CountChanges, s)
		mustNotTell(t, impl.ChainOfDays, s)
	}
	for _, s := range badDay {
		for _, day := range kinds {
			mustNotTell(t, impl.ChanceNext, c, s, day)
			mustNotTell(t, impl.ChanceNext, c, day, s)
			mustNotTell(t, impl.ChanceLater, c, s, day, 2)
			mustNotTell(t, impl.ChanceLater, c, day, s, 2)
			mustNotTell(t, impl.MeanUntil, c, s, day)
			mustNotTell(t, impl.MeanUntil, c, day, s)
		}
		mustNotTell(t, impl.LongShare, c, s)
		mustNotTell(t, impl.MeanRun, c, s)
		mustNotTell(t, impl.ChanceOfRun, c, s, 2)
		mustNotTell(t, impl.MeanWets, c, s, 2)
		mustNotTell(t, impl.LikeliestDays, c, s, 2)
	}
}

// Limits that are met exactly are in the tests of promise 1.
func TestLimitsPassedByOne(t *testing.T) {
	c := impl.Chain{Wets: 1, Dries: 2, Of: 4}
	for _, day := range kinds {
		for _, n := range []int{math.MinInt, -1, impl.MaxDays + 1, math.MaxInt} {
			mustNotTell(t, impl.ChanceLater, c, day, "d", n)
			mustNotTell(t, impl.ChanceLater, c, day, "w", n)
			mustNotTell(t, impl.MeanWets, c, day, n)
			mustNotTell(t, impl.ChanceOfRun, c, day, n)
			mustNotTell(t, impl.LikeliestDays, c, day, n)
		}
		mustNotTell(t, impl.ChanceOfRun, c, day, 0)
		mustNotTell(t, impl.LikeliestDays, c, day, 0)
		mustNotTell(t, impl.ChanceOfDays, c, strings.Repeat(day, impl.MaxDays+2))
		mustNotTell(t, impl.ChanceOfDays, c, strings.Repeat(day, impl.MaxSeen))
		mustNotTell(t, impl.ChanceOfAny, c, strings.Repeat(day, impl.MaxDays+1))
		mustNotTell(t, impl.ChanceOfAny, c, strings.Repeat(day, impl.MaxSeen))
	}
}

func TestLimitsAreThoseOfTheDocument(t *testing.T) {
	if impl.MaxOf != 10 || impl.MaxDays != 8 || impl.MaxSeen != 60 {
		t.Error(impl.MaxOf, impl.MaxDays, impl.MaxSeen)
	}
	if impl.MaxStates != 5 || impl.MaxSteps != 8 {
		t.Error(impl.MaxStates, impl.MaxSteps)
	}
	if impl.MaxPattern != 8 || impl.MaxTosses != 40 || impl.MaxListedTosses != 12 {
		t.Error(impl.MaxPattern, impl.MaxTosses, impl.MaxListedTosses)
	}
	if impl.MaxRaced != 5 || impl.MaxRaceOf != 4 || impl.MaxRacers != 4 {
		t.Error(impl.MaxRaced, impl.MaxRaceOf, impl.MaxRacers)
	}
	if impl.MaxSides != 12 || impl.MaxFairTosses != 200 {
		t.Error(impl.MaxSides, impl.MaxFairTosses)
	}
	if impl.MaxLetters != 26 || impl.MaxWord != 8 || impl.MaxTyped != 60 || impl.MaxRingWords != 300 || impl.MaxTexts != 1000000000000000 {
		t.Error(impl.MaxLetters, impl.MaxWord, impl.MaxTyped, impl.MaxRingWords, impl.MaxTexts)
	}
	if impl.MaxSigns != 6 {
		t.Error(impl.MaxSigns)
	}
	if impl.MaxPurse != 16 || impl.MaxPlays != 6 || impl.MaxStakes != 40 {
		t.Error(impl.MaxPurse, impl.MaxPlays, impl.MaxStakes)
	}
	if impl.MaxHidden != 8 || impl.MaxClues != 6 {
		t.Error(impl.MaxHidden, impl.MaxClues)
	}
	if impl.MaxScript != 3000 || impl.MaxLines != 50 {
		t.Error(impl.MaxScript, impl.MaxLines)
	}
}

func TestNoStates(t *testing.T) {
	for _, s := range badStates() {
		mustNotTell(t, impl.AreStates, s)
		mustNotTell(t, impl.ChanceOfStep, s, 0, 0)
		mustNotTell(t, impl.StatesAfter, s, 0, 0)
		mustNotTell(t, impl.StatesAfter, s, 0, 2)
		mustNotTell(t, impl.ReachedStates, s, 0)
		mustNotTell(t, impl.StateClasses, s)
		mustNotTell(t, impl.IsOneClass, s)
		mustNotTell(t, impl.LastingStates, s)
		mustNotTell(t, impl.EndStates, s)
		mustNotTell(t, impl.PeriodOfState, s, 0)
		mustNotTell(t, impl.MeanUntilState, s, 0, 0)
		mustNotTell(t, impl.ChanceToVisit, s, 0, 0)
		mustNotTell(t, impl.ChanceToEnd, s, 0, 0)
		mustNotTell(t, impl.SharesOfStates, s)
		mustNotTell(t, impl.CountWays, s, 0, 0, 0)
		mustNotTell(t, impl.CountWays, s, 0, 0, 2)
		mustNotTell(t, impl.FirstWay, s, 0, 0)
		for _, names := range [][]int{nil, {0}, {1, 0}, {2, 0, 1}, {0, 1, 2, 3, 4, 5}} {
			mustNotTell(t, impl.RenameStates, s, names)
		}
		mustNotTell(t, impl.StatesText, s)
	}
	for _, s := range goodStates() {
		if !impl.AreStates(s) {
			t.Error("no states", s)
		}
	}
}

// Behind three states nothing is there, though arrays may have room for it.
func TestStatesThatThereAreNot(t *testing.T) {
	s := impl.States{Of: 2, Rows: [][]int{{1, 1, 0}, {1, 0, 1}, {0, 0, 2}}}
	for _, k := range []int{math.MinInt, -1, 3, 4, 5, math.MaxInt} {
		for _, f := range []any{impl.ChanceOfStep, impl.MeanUntilState, impl.ChanceToVisit, impl.ChanceToEnd, impl.FirstWay} {
			mustNotTell(t, f, s, k, 2)
			mustNotTell(t, f, s, 2, k)
			mustNotTell(t, f, s, k, k)
		}
		mustNotTell(t, impl.StatesAfter, s, k, 2)
		mustNotTell(t, impl.ReachedStates, s, k)
		mustNotTell(t, impl.PeriodOfState, s, k)
		mustNotTell(t, impl.CountWays, s, k, 2, 2)
		mustNotTell(t, impl.CountWays, s, 2, k, 2)
		mustNotTell(t, impl.RenameStates, s, []int{0, k, 2})
	}
	for _, names := range [][]int{nil, {0, 1}, {0, 1, 2, 3}, {0, 1, 1}, {2, 2, 2}, {0, 1, 2, 0}} {
		mustNotTell(t, impl.RenameStates, s, names)
	}
	for _, steps := range []int{math.MinInt, -1, impl.MaxSteps + 1, math.MaxInt} {
		mustNotTell(t, impl.StatesAfter, s, 0, steps)
		mustNotTell(t, impl.CountWays, s, 0, 2, steps)
	}
}

func TestNoCoins(t *testing.T) {
	for _, c := range badCoins {
		mustNotTell(t, impl.IsCoin, c)
		mustNotTell(t, impl.ChanceOfPattern, c, "h")
		mustNotTell(t, impl.MeanWait, c, "h")
		mustNotTell(t, impl.MeanBetween, c, "h")
		mustNotTell(t, impl.ChanceBy, c, "h", 0)
		mustNotTell(t, impl.ChanceBy, c, "h", 2)
		mustNotTell(t, impl.MeanPlaces, c, "h", 0)
		mustNotTell(t, impl.MeanPlaces, c, "h", 2)
		mustNotTell(t, impl.CoinText, c)
	}
	for _, c := range allCoins() {
		if !impl.IsCoin(c) {
			t.Error("no coin", c)
		}
	}
}

func TestNoPatterns(t *testing.T) {
	c := impl.Coin{Heads: 1, Of: 3}
	for _, p := range badPatterns {
		mustNotTell(t, impl.IsPattern, p)
		mustNotTell(t, impl.ChanceOfPattern, c, p)
		mustNotTell(t, impl.OverlapsOf, p)
		mustNotTell(t, impl.MeanWait, c, p)
		mustNotTell(t, impl.MeanBetween, c, p)
		mustNotTell(t, impl.CountWithout, p, 0)
		mustNotTell(t, impl.CountWithout, p, 4)
		mustNotTell(t, impl.CountFirstAt, p, 4)
		mustNotTell(t, impl.ChanceBy, c, p, 0)
		mustNotTell(t, impl.ChanceBy, c, p, 4)
		mustNotTell(t, impl.AllWithout, p, 0)
		mustNotTell(t, impl.AllWithout, p, 4)
		for _, tosses := range []string{"", "h", p, p + p, "ht" + p + "ht"} {
			mustNotTell(t, impl.PlacesOf, p, tosses)
			mustNotTell(t, impl.FirstPlace, p, tosses)
		}
		mustNotTell(t, impl.MeanPlaces, c, p, 0)
		mustNotTell(t, impl.MeanPlaces, c, p, 4)
		mustNotTell(t, impl.TurnPattern, p)
		mustNotTell(t, impl.BackPattern, p)
	}
	for _, tosses := range badTosses {
		for _, p := range []string{"h", "t", "ht", "hhhhhhhh"} {
			mustNotTell(t, impl.PlacesOf, p, tosses)
			mustNotTell(t, impl.FirstPlace, p, tosses)
			mustNotTell(t, impl.PlacesOf, p, p+tosses)
			mustNotTell(t, impl.FirstPlace, p, p+tosses)
		}
	}
}

func TestNumbersOfTossesPassedByOne(t *testing.T) {
	c := impl.Coin{Heads: 1, Of: 3}
	for _, p := range []string{"h", "tt", "hhhhhhhh", "hthththt"} {
		mustNotTell(t, impl.CountFirstAt, p, 0)
		for _, n := range []int{math.MinInt, -1, impl.MaxTosses + 1, math.MaxInt} {
			mustNotTell(t, impl.CountWithout, p, n)
			mustNotTell(t, impl.CountFirstAt, p, n)
			mustNotTell(t, impl.MeanPlaces, c, p, n)
		}
		for _, n := range []int{math.MinInt, -1, 9, 12, math.MaxInt} {
			mustNotTell(t, impl.ChanceBy, c, p, n)
		}
		for _, n := range []int{math.MinInt, -1, impl.MaxListedTosses + 1, impl.MaxTosses, math.MaxInt} {
			mustNotTell(t, impl.AllWithout, p, n)
		}
	}
	for _, n := range []int{math.MinInt, -1, 0, impl.MaxPattern + 1, impl.MaxTosses, math.MaxInt} {
		mustNotTell(t, impl.LongestWait, n)
		mustNotTell(t, impl.ShortestWait, n)
	}
}

func TestNoRaceCoins(t *testing.T) {
	for _, c := range badRaceCoins {
		for _, f := range []any{impl.LeadingNumber, impl.ChanceFirst, impl.MeanRace, impl.DoesBeat} {
			mustNotTell(t, f, c, "h", "t")
			mustNotTell(t, f, c, "thh", "hhh")
		}
		mustNotTell(t, impl.LeadingNumber, c, "hh", "hh")
		for _, f := range []any{impl.BestAnswer, impl.BeatenBy, impl.AnswersFrom, impl.EvenRaces} {
			mustNotTell(t, f, c, "hh")
			mustNotTell(t, f, c, "hthht")
		}
		mustNotTell(t, impl.HardestToBeat, c, 2)
	}
}

// mustNotRace asks all functions that require racers, which a and b are not.
func mustNotRace(t *testing.T, a, b string) {
	t.Helper()
	c := impl.Coin{Heads: 1, Of: 3}
	mustNotTell(t, impl.AreRacers, a, b)
	mustNotTell(t, impl.ChanceFirst, c, a, b)
	mustNotTell(t, impl.MeanRace, c, a, b)
	mustNotTell(t, impl.DoesBeat, c, a, b)
	for _, tosses := range []string{"", "hthhtt", "hhhhhhhhhhtttttttttt"} {
		mustNotTell(t, impl.WinnerOfRace, a, b, tosses)
	}
	if len(a)+len(b) <= impl.MaxTosses {
		mustNotTell(t, impl.WinnerOfRace, a, b, a+b)
	}
	for _, n := range []int{0, 1, 8} {
		mustNotTell(t, impl.CountWonAt, a, b, n)
		mustNotTell(t, impl.CountOpen, a, b, n)
	}
	mustNotTell(t, impl.TurnRace, a, b)
}

func TestNoRacers(t *testing.T) {
	c := impl.Coin{Heads: 1, Of: 3}
	for _, p := range badRacers {
		for _, q := range []string{"h", "hhh", strings.Repeat("h", len(p)), strings.Repeat("t", len(p)), p} {
			if p != q {
				mustNotRace(t, p, q)
				mustNotRace(t, q, p)
			}
			mustNotTell(t, impl.LeadingNumber, c, p, q)
			mustNotTell(t, impl.LeadingNumber, c, q, p)
		}
		mustNotRace(t, p, p)
		mustNotTell(t, impl.BeatenBy, c, p)
		mustNotTell(t, impl.EvenRaces, c, p)
		mustNotTell(t, impl.BestAnswer, c, p)
		mustNotTell(t, impl.AnswersFrom, c, p)
	}
	// A pattern of one sign has one rival, but no answer is told of it.
	for _, p := range []string{"h", "t"} {
		mustNotTell(t, impl.BestAnswer, c, p)
		mustNotTell(t, impl.AnswersFrom, c, p)
	}
	for _, a := range racedPatterns() {
		mustNotRace(t, a, a)
		if len(a) > 1 {
			mustNotRace(t, a, a[1:])
			mustNotRace(t, a[:1], a)
			mustNotTell(t, impl.LeadingNumber, c, a, a[1:])
			mustNotTell(t, impl.LeadingNumber, c, a[:1], a)
		}
	}
}

func TestNoManyRacers(t *testing.T) {
	for _, list := range badLists() {
		mustNotTell(t, impl.AreManyRacers, list)
		for _, tosses := range []string{"", "h", "hhttht", "hhhhhhhhhhtttttttttt"} {
			mustNotTell(t, impl.WinnerOfMany, list, tosses)
		}
		for _, n := range []int{0, 1, 8} {
			mustNotTell(t, impl.CountManyWonAt, list, 0, n)
			mustNotTell(t, impl.CountManyOpen, list, n)
		}
	}
	for _, list := range goodLists() {
		if !impl.AreManyRacers(list) {
			t.Error("no many racers", list)
		}
		for _, k := range []int{math.MinInt, -1, len(list), impl.MaxRacers, math.MaxInt} {
			mustNotTell(t, impl.CountManyWonAt, list, k, 0)
			mustNotTell(t, impl.CountManyWonAt, list, k, 5)
		}
	}
}

func TestLimitsOfRacesPassedByOne(t *testing.T) {
	c := impl.Coin{Heads: 3, Of: 4}
	for _, n := range []int{math.MinInt, -1, 31, impl.MaxTosses, math.MaxInt} {
		mustNotTell(t, impl.CountWonAt, "h", "t", n)
		mustNotTell(t, impl.CountOpen, "thhhh", "hhhhh", n)
		mustNotTell(t, impl.CountManyWonAt, []string{"hh", "ht", "tt"}, 1, n)
		mustNotTell(t, impl.CountManyOpen, []string{"hh", "ht", "tt"}, n)
	}
	for _, long := range []int{math.MinInt, -1, 0, 1, impl.MaxRaced + 1, impl.MaxPattern, math.MaxInt} {
		mustNotTell(t, impl.HardestToBeat, c, long)
	}
	for _, tosses := range badTosses {
		for _, text := range []string{tosses, "hhtt" + tosses, tosses + "hhtt"} {
			mustNotTell(t, impl.WinnerOfRace, "hh", "tt", text)
			mustNotTell(t, impl.WinnerOfMany, []string{"hh", "tt", "ht"}, text)
		}
	}
}

func TestNoManyTosses(t *testing.T) {
	c := impl.Coin{Heads: 1, Of: 3}
	for _, tosses := range badManyTosses {
		for _, f := range []any{impl.AreManyTosses, impl.FairByPairs, impl.FairAgain, impl.PairsThatGive} {
			mustNotTell(t, f, tosses)
		}
		for _, sides := range []int{1, 2, 6, impl.MaxSides} {
			for _, f := range []any{impl.RollOf, impl.RollsOf, impl.RollKeeping, impl.RollsKeeping} {
				mustNotTell(t, f, sides, tosses)
			}
		}
		for _, f := range []any{impl.UnfairOf, impl.UnfairTosses, impl.ChanceOfAll} {
			mustNotTell(t, f, c, tosses)
		}
		for _, other := range []string{"", "h", "ht", tosses} {
			mustNotTell(t, impl.SameFair, tosses, other)
			mustNotTell(t, impl.SameFair, other, tosses)
		}
	}
	// The first tosses would do for a roll or an unfair toss, but the text is none.
	for _, tosses := range badSigns {
		mustNotTell(t, impl.RollOf, 2, "ht"+tosses)
		mustNotTell(t, impl.RollKeeping, 2, "ht"+tosses)
		mustNotTell(t, impl.RollsOf, 2, "ht"+tosses)
		mustNotTell(t, impl.RollsKeeping, 2, "ht"+tosses)
		mustNotTell(t, impl.UnfairOf, c, "ht"+tosses)
		mustNotTell(t, impl.UnfairTosses, c, "ht"+tosses)
	}
}

func TestNoCoinsOfFairTosses(t *testing.T) {
	for _, c := range badCoins {
		mustNotTell(t, impl.ChanceToGive, c)
		mustNotTell(t, impl.MeanTosses, c)
		mustNotTell(t, impl.MeanFair, c, 0)
		mustNotTell(t, impl.MeanFair, c, 9)
		for _, tosses := range []string{"", "h", "t", "htthht"} {
			mustNotTell(t, impl.UnfairOf, c, tosses)
			mustNotTell(t, impl.UnfairTosses, c, tosses)
			mustNotTell(t, impl.ChanceOfAll, c, tosses)
		}
	}
}

func TestNoDice(t *testing.T) {
	for _, sides := range badSides {
		mustNotTell(t, impl.MeanForRoll, sides)
		mustNotTell(t, impl.MeanKeeping, sides)
		for _, tosses := range []string{"", "t", "tttttttt", strings.Repeat("t", impl.MaxFairTosses)} {
			for _, f := range []any{impl.RollOf, impl.RollsOf, impl.RollKeeping, impl.RollsKeeping} {
				mustNotTell(t, f, sides, tosses)
			}
		}
	}
}

func TestLimitsOfFairTossesPassedByOne(t *testing.T) {
	c := impl.Coin{Heads: 3, Of: 4}
	for _, n := range []int{math.MinInt, -2, -1, impl.MaxFairTosses + 1, impl.MaxFairTosses + 2, math.MaxInt} {
		mustNotTell(t, impl.MeanFair, c, n)
	}
	for _, n := range []int{impl.MaxPattern + 1, impl.MaxTosses, impl.MaxFairTosses, impl.MaxFairTosses + 1} {
		mustNotTell(t, impl.ChanceOfAll, c, strings.Repeat("h", n))
		mustNotTell(t, impl.ChanceOfAll, c, strings.Repeat("t", n))
	}
}

func TestNoAlphabets(t *testing.T) {
	for _, letters := range badLetters {
		for _, w := range []string{"", "a", "z", "ab", "aaaaaaaa", "A", "aaaaaaaaa"} {
			mustNotTell(t, impl.IsWord, letters, w)
			mustNotTell(t, impl.MeanTyped, letters, w)
			mustNotTell(t, impl.CountTextsWithout, letters, w, 0)
			mustNotTell(t, impl.CountTextsWithout, letters, w, 5)
			mustNotTell(t, impl.CountFirstTyped, letters, w, 0)
			mustNotTell(t, impl.CountFirstTyped, letters, w, 5)
			mustNotTell(t, impl.RankOfWord, letters, w)
			mustNotTell(t, impl.HasAllWords, letters, 1, w)
			mustNotTell(t, impl.HasAllWords, letters, 2, w)
		}
		for long := 1; long <= impl.MaxWord; long++ {
			for _, f := range []any{impl.PrimeWords, impl.CountPrimeWords, impl.RingWithAll, impl.CountNecklaces, impl.LongestTyped} {
				mustNotTell(t, f, letters, long)
			}
			mustNotTell(t, impl.WordOfRank, letters, long, 0)
		}
	}
}

func TestNoWords(t *testing.T) {
	for _, w := range badWords {
		for _, f := range []any{impl.WordOverlaps, impl.RootOfWord, impl.FirstTurn, impl.IsPrimeWord} {
			mustNotTell(t, f, w)
		}
		for _, letters := range []int{1, 2, 26} {
			mustNotTell(t, impl.MeanTyped, letters, w)
			mustNotTell(t, impl.RankOfWord, letters, w)
			for _, long := range []int{0, 1, 30} {
				mustNotTell(t, impl.CountTextsWithout, letters, w, long)
				mustNotTell(t, impl.CountFirstTyped, letters, w, long)
			}
		}
		for _, other := range []string{"", "a", "ab", "zzzzzzzz", w} {
			mustNotTell(t, impl.PlacesOfWord, w, other)
			mustNotTell(t, impl.ShortestWithBoth, w, other)
			mustNotTell(t, impl.ShortestWithBoth, other, w)
			mustNotTell(t, impl.SameNecklace, w, other)
			mustNotTell(t, impl.SameNecklace, other, w)
		}
		mustNotTell(t, impl.TurnWord, w, 0)
		mustNotTell(t, impl.TurnWord, w, 1)
	}
}

// Of each alphabet the next letter is none, though it is one of a greater one.
func TestNoWordsOfAnAlphabet(t *testing.T) {
	for letters := 1; letters < impl.MaxLetters; letters++ {
		for _, letter := range allLetters[letters:] {
			next := string(letter)
			for _, w := range []string{next, "a" + next, next + "a", "aaa" + next + "aaaa"} {
				mustNotTell(t, impl.MeanTyped, letters, w)
				mustNotTell(t, impl.CountTextsWithout, letters, w, 0)
				mustNotTell(t, impl.CountTextsWithout, letters, w, 9)
				mustNotTell(t, impl.CountFirstTyped, letters, w, 0)
				mustNotTell(t, impl.CountFirstTyped, letters, w, 9)
				mustNotTell(t, impl.RankOfWord, letters, w)
			}
			mustNotTell(t, impl.HasAllWords, letters, 1, allLetters[:letters-1]+next)
		}
	}
}

func TestNoTexts(t *testing.T) {
	for _, text := range badTexts {
		for _, w := range []string{"a", "ab", "z", "zzzzzzzz"} {
			mustNotTell(t, impl.PlacesOfWord, w, text)
			mustNotTell(t, impl.PlacesOfWord, w, w+text)
			mustNotTell(t, impl.PlacesOfWord, w, text+w)
		}
	}
}

func TestLimitsOfWordsPassedByOne(t *testing.T) {
	for letters := 1; letters <= impl.MaxLetters; letters++ {
		for _, long := range badLongs {
			for _, f := range []any{impl.PrimeWords, impl.CountPrimeWords, impl.RingWithAll, impl.CountNecklaces, impl.LongestTyped} {
				mustNotTell(t, f, letters, long)
			}
			for _, ring := range []string{"", "a", "ab", allLetters[:letters]} {
				mustNotTell(t, impl.HasAllWords, letters, long, ring)
			}
			mustNotTell(t, impl.WordOfRank, letters, long, 0)
			mustNotTell(t, impl.WordOfRank, letters, long, 1)
		}
		for _, long := range []int{math.MinInt, -1, 31, impl.MaxTyped, math.MaxInt} {
			mustNotTell(t, impl.CountTextsWithout, letters, "a", long)
			mustNotTell(t, impl.CountFirstTyped, letters, "a", long)
		}
		for _, rank := range []int{math.MinInt, -1, letters * letters, math.MaxInt} {
			mustNotTell(t, impl.WordOfRank, letters, 2, rank)
		}
	}
	for _, w := range typedWords(26) {
		for _, by := range []int{math.MinInt, -len(w), -1, len(w), len(w) + 1, impl.MaxWord, math.MaxInt} {
			mustNotTell(t, impl.TurnWord, w, by)
		}
	}
}

// Words that are not listed have more than they may have, and no ring is asked for.
func TestTooManyWordsForARing(t *testing.T) {
	for letters := 1; letters <= impl.MaxLetters; letters++ {
		words := 1
		for long := 1; long <= impl.MaxWord; long++ {
			if words *= letters; words <= 300 {
				continue
			}
			mustNotTell(t, impl.PrimeWords, letters, long)
			mustNotTell(t, impl.RingWithAll, letters, long)
			for _, ring := range []string{"", "a", allLetters[:letters], strings.Repeat("a", 300), strings.Repeat("a", min(words, 2000))} {
				mustNotTell(t, impl.HasAllWords, letters, long, ring)
			}
		}
	}
}

// A ring has as many letters as there are words, neither one less nor one more, and only letters of the alphabet.
func TestNoRings(t *testing.T) {
	for _, size := range ringSizes() {
		letters, long := size[0], size[1]
		ring, _ := impl.RingWithAll(letters, long)
		for _, text := range []string{"", ring[1:], ring[:len(ring)-1], ring + "a", ring + ring, "A" + ring[1:], ring[1:] + " ", "\xff" + ring[1:], "`" + ring[1:], ring[1:] + "{"} {
			mustNotTell(t, impl.HasAllWords, letters, long, text)
		}
		if letters < impl.MaxLetters {
			next := allLetters[letters : letters+1]
			mustNotTell(t, impl.HasAllWords, letters, long, next+ring[1:])
			mustNotTell(t, impl.HasAllWords, letters, long, ring[1:]+next)
		}
	}
}

func TestNoHiddenDays(t *testing.T) {
	for _, h := range badHidden() {
		mustNotTell(t, impl.IsHidden, h)
		for _, signs := range []string{"u", "n", "nu", "unnuun"} {
			days := strings.Repeat("d", len(signs))
			mustNotTell(t, impl.ChanceBoth, h, days, signs)
			mustNotTell(t, impl.ChanceOfHidden, h, signs, days)
			for _, f := range []any{impl.ChanceOfSigns, impl.LikeliestHidden, impl.CountPossible, impl.FirstPossible, impl.DayByDay} {
				mustNotTell(t, f, h, signs)
			}
			mustNotTell(t, impl.ChanceOfDay, h, signs, 0, "d")
			mustNotTell(t, impl.ChanceOfDay, h, signs, len(signs)-1, "w")
			mustNotTell(t, impl.ChanceOfNextSign, h, signs, "u")
			mustNotTell(t, impl.ChanceOfNextSign, h, signs, "n")
		}
		for many := range impl.MaxSigns + 1 {
			mustNotTell(t, impl.LikeliestSigns, h, many)
			mustNotTell(t, impl.MeanSigns, h, many)
		}
		for _, f := range []any{impl.DoSignsTell, impl.TurnHidden, impl.HiddenText} {
			mustNotTell(t, f, h)
		}
	}
}

// someHidden tell something and nothing, and by some of them not all signs can come.
func someHidden(t *testing.T) []impl.Hidden {
	t.Helper()
	return []impl.Hidden{mustParseHidden(t, "1-2/4:1-3/4"), mustParseHidden(t, "0-0/1:0-0/1"), mustParseHidden(t, "1-1/1:1-1/1"), mustParseHidden(t, "3-7/10:0-10/10")}
}

func TestNoSigns(t *testing.T) {
	for _, h := range someHidden(t) {
		for _, signs := range badSignTexts {
			mustNotTell(t, impl.AreSigns, signs)
			for _, f := range []any{impl.ChanceOfSigns, impl.LikeliestHidden, impl.CountPossible, impl.FirstPossible, impl.DayByDay} {
				mustNotTell(t, f, h, signs)
			}
			for _, days := range []string{"", "d", "w", strings.Repeat("d", len(signs)), strings.Repeat("w", impl.MaxSigns), signs} {
				mustNotTell(t, impl.ChanceBoth, h, days, signs)
				mustNotTell(t, impl.ChanceOfHidden, h, signs, days)
			}
			for k := range impl.MaxSigns + 1 {
				mustNotTell(t, impl.ChanceOfDay, h, signs, k, "d")
				mustNotTell(t, impl.ChanceOfDay, h, signs, k, "w")
			}
			mustNotTell(t, impl.ChanceOfNextSign, h, signs, "u")
			mustNotTell(t, impl.ChanceOfNextSign, h, signs, "n")
		}
		for _, sign := range badSign {
			for _, signs := range []string{"u", "n", "nu", "nnnnnn"} {
				mustNotTell(t, impl.ChanceOfNextSign, h, signs, sign)
			}
		}
	}
}

// Days are as many as signs, neither one less nor one more, and a day is one alone.
func TestNoDaysOfSigns(t *testing.T) {
	for _, h := range someHidden(t) {
		for _, signs := range []string{"u", "n", "nu", "nnn", "uuuuuu", "nnnnnn"} {
			bad := slices.Clone(badDays)
			for _, day := range kinds {
				for _, many := range []int{len(signs) - 1, len(signs) + 1, impl.MaxDays, impl.MaxSeen} {
					bad = append(bad, strings.Repeat(day, many))
				}
				bad = append(bad, strings.Repeat(day, len(signs)-1)+"x", "D"+strings.Repeat(day, len(signs)-1), strings.Repeat(day, len(signs)-1)+"\xff")
			}
			for _, days := range append(bad, signs) {
				mustNotTell(t, impl.ChanceBoth, h, days, signs)
				mustNotTell(t, impl.ChanceOfHidden, h, signs, days)
			}
			for k := range len(signs) {
				for _, day := range append(slices.Clone(badDay), "u", "n") {
					mustNotTell(t, impl.ChanceOfDay, h, signs, k, day)
				}
			}
			for _, k := range []int{math.MinInt, -6, -1, len(signs), len(signs) + 1, 63, 64, math.MaxInt} {
				mustNotTell(t, impl.ChanceOfDay, h, signs, k, "d")
				mustNotTell(t, impl.ChanceOfDay, h, signs, k, "w")
			}
		}
	}
}

func TestLimitsOfSignsPassedByOne(t *testing.T) {
	for _, h := range someHidden(t) {
		for _, many := range []int{math.MinInt, -2, -1, impl.MaxSigns + 1, impl.MaxDays, 64, math.MaxInt} {
			mustNotTell(t, impl.LikeliestSigns, h, many)
			mustNotTell(t, impl.MeanSigns, h, many)
		}
		mustNotTell(t, impl.LikeliestSigns, h, 0)
	}
}

func TestNoStakes(t *testing.T) {
	c := impl.Coin{Heads: 1, Of: 3}
	for _, s := range badStakes {
		for _, f := range []any{impl.AreStakes, impl.BoldStake, impl.TurnStakes, impl.StakesText} {
			mustNotTell(t, f, s)
		}
		for _, f := range []any{impl.ChanceOfGoal, impl.ChanceOfRuin, impl.MeanPlays} {
			mustNotTell(t, f, c, s)
		}
		for plays := range impl.MaxPlays + 1 {
			for _, f := range []any{impl.BoldWithin, impl.TimidWithin, impl.MostWithin, impl.BestStakes} {
				mustNotTell(t, f, c, s, plays)
			}
			for _, f := range []any{impl.CountRuins, impl.CountGoals, impl.CountInPlay} {
				mustNotTell(t, f, s, plays)
			}
		}
		for _, tosses := range []string{"", "h", "tth"} {
			mustNotTell(t, impl.BoldPath, s, tosses)
			for _, list := range [][]int{nil, {1}, {1, 2, 3}} {
				mustNotTell(t, impl.PlayStakes, s, list, tosses)
			}
		}
	}
	for _, text := range badStakesTexts {
		mustNotTell(t, impl.ParseStakes, text)
	}
	for _, goal := range []int{math.MinInt, -8, -1, 0, impl.MaxPurse + 1, math.MaxInt} {
		mustNotTell(t, impl.NeededPurse, c, goal, 0, 1)
		mustNotTell(t, impl.NeededPurse, c, goal, 1, 2)
		mustNotTell(t, impl.NeededPurse, c, goal, 1, 1)
	}
}

// Coins are asked for where nothing depends on them, too.
func TestNoCoinsOfStakes(t *testing.T) {
	for _, c := range badCoins {
		for _, s := range allStakes() {
			for _, f := range []any{impl.ChanceOfGoal, impl.ChanceOfRuin, impl.MeanPlays} {
				mustNotTell(t, f, c, s)
			}
			for _, f := range []any{impl.BoldWithin, impl.TimidWithin, impl.MostWithin, impl.BestStakes} {
				mustNotTell(t, f, c, s, 0)
				mustNotTell(t, f, c, s, 1)
				mustNotTell(t, f, c, s, impl.MaxPlays)
			}
		}
		for _, n := range []int{0, 1, 1000} {
			mustNotTell(t, impl.MeanPurse, c, n, 0)
			mustNotTell(t, impl.MeanPurse, c, n, n)
			mustNotTell(t, impl.IsFairPlay, c, 0, n)
			mustNotTell(t, impl.IsFairPlay, c, n, n)
			mustNotTell(t, impl.NeededPurse, c, 8, n, 1000)
		}
	}
}

func TestNoTossesOfStakes(t *testing.T) {
	for _, text := range []string{"0of1", "1of1", "0of16", "3of8", "16of16", "8of16"} {
		s := mustParseStakes(t, text)
		for _, tosses := range badTosses {
			// The game may be over, or the list may have ended, before the toss that is none.
			for _, tosses := range []string{tosses, "h" + tosses, tosses + "t"} {
				mustNotTell(t, impl.BoldPath, s, tosses)
				for _, list := range [][]int{nil, {1}, {1, 1, 1, 1, 1, 1}} {
					mustNotTell(t, impl.PlayStakes, s, list, tosses)
				}
			}
		}
	}
}

func TestLimitsOfStakesPassedByOne(t *testing.T) {
	c := impl.Coin{Heads: 3, Of: 4}
	for _, s := range allStakes() {
		for _, plays := range []int{math.MinInt, -2, -1, impl.MaxPlays + 1, 30, 64, math.MaxInt} {
			for _, f := range []any{impl.BoldWithin, impl.TimidWithin, impl.MostWithin, impl.BestStakes} {
				mustNotTell(t, f, c, s, plays)
			}
		}
		for _, plays := range []int{math.MinInt, -2, -1, 31, impl.MaxTosses, 64, math.MaxInt} {
			for _, f := range []any{impl.CountRuins, impl.CountGoals, impl.CountInPlay} {
				mustNotTell(t, f, s, plays)
			}
		}
		for _, tosses := range []string{"", "h", strings.Repeat("ht", impl.MaxTosses/2)} {
			mustNotTell(t, impl.PlayStakes, s, slices.Repeat([]int{1}, impl.MaxStakes+1), tosses)
			mustNotTell(t, impl.PlayStakes, s, make([]int, 3000), tosses)
		}
	}
}

func TestLimitsOfMoneyPassedByOne(t *testing.T) {
	coins := []impl.Coin{{Heads: 1, Of: 2}, {Heads: 1, Of: 10}, {Heads: 9, Of: 10}}
	for _, c := range coins {
		for _, purse := range []int{math.MinInt, -1, 1001, math.MaxInt} {
			for _, stake := range []int{math.MinInt, -1, 0, 1, 1000, purse, math.MaxInt} {
				mustNotTell(t, impl.MeanPurse, c, purse, stake)
			}
			for _, other := range []int{0, 1, 1000, purse} {
				mustNotTell(t, impl.IsFairPlay, c, purse, other)
				mustNotTell(t, impl.IsFairPlay, c, other, purse)
				mustNotTell(t, impl.NeededPurse, c, 8, purse, 1000)
			}
		}
		for _, purse := range []int{0, 1, 2, 500, 1000} {
			for _, stake := range []int{math.MinInt, -1, purse + 1, 1001, math.MaxInt} {
				mustNotTell(t, impl.MeanPurse, c, purse, stake)
			}
		}
		for _, den := range []int{math.MinInt, -1000, -1, 0, 1001, math.MaxInt} {
			for _, num := range []int{0, 1, 1000} {
				mustNotTell(t, impl.NeededPurse, c, 8, num, den)
			}
		}
	}
}

func TestNoClues(t *testing.T) {
	for _, c := range badClues {
		mustNotTell(t, impl.IsClue, 4, c)
		for _, chain := range allHiddenChains() {
			mustNotTell(t, impl.DoesFit, c, chain)
		}
		for _, p := range goodPuzzles() {
			mustNotTell(t, impl.AddClue, p, c)
		}
	}
	for _, c := range goodClues {
		if !impl.IsClue(4, c) {
			t.Error("no clue", c)
		}
	}
}

func TestNoPuzzles(t *testing.T) {
	for _, p := range badPuzzles() {
		for _, f := range []any{
			impl.IsPuzzle, impl.Solutions, impl.CountSolutions, impl.FirstSolution, impl.SureChain, impl.IsSolved, impl.NeedlessClues, impl.LeftByClues, impl.BestClue,
			impl.HarderPuzzle, impl.PuzzleText,
		} {
			mustNotTell(t, f, p)
		}
		for k := -1; k <= len(p.Clues); k++ {
			mustNotTell(t, impl.DropClue, p, k)
		}
		for _, c := range goodClues {
			mustNotTell(t, impl.AddClue, p, c)
		}
	}
	for _, p := range goodPuzzles() {
		if !impl.IsPuzzle(p) {
			t.Error("no puzzle", p)
		}
	}
	for _, text := range badPuzzleTexts {
		mustNotTell(t, impl.ParsePuzzle, text)
	}
}

// Chains may have an Of that is too great for hidden ones.
func TestNoHiddenChains(t *testing.T) {
	bad := slices.Clone(badChains)
	for _, c := range allChains() {
		if c.Of > impl.MaxHidden {
			bad = append(bad, c)
		}
	}
	for _, chain := range bad {
		for _, c := range goodClues {
			mustNotTell(t, impl.DoesFit, c, chain)
		}
		for many := range impl.MaxClues + 1 {
			mustNotTell(t, impl.MakePuzzle, chain, many, 0)
			mustNotTell(t, impl.MakePuzzle, chain, many, 9999)
		}
	}
}

func TestLimitsOfPuzzlesPassedByOne(t *testing.T) {
	for _, chain := range allHiddenChains() {
		for _, many := range []int{math.MinInt, -2, -1, impl.MaxClues + 1, 9, 1 << 40, math.MaxInt} {
			mustNotTell(t, impl.MakePuzzle, chain, many, 0)
			mustNotTell(t, impl.MakePuzzle, chain, many, 9999)
		}
		for _, seed := range []int{math.MinInt, -10007, -1, 10000, 10006, 10007, 1 << 40, math.MaxInt} {
			mustNotTell(t, impl.MakePuzzle, chain, 0, seed)
			mustNotTell(t, impl.MakePuzzle, chain, impl.MaxClues, seed)
		}
	}
	for _, p := range goodPuzzles() {
		for _, k := range []int{math.MinInt, -2, -1, len(p.Clues), len(p.Clues) + 1, cap(p.Clues), 64, math.MaxInt} {
			mustNotTell(t, impl.DropClue, p, k)
		}
		for many := len(p.Clues); many < impl.MaxClues; many++ {
			more, ok := impl.AddClue(p, goodClues[many])
			if p = more; !ok || len(p.Clues) != many+1 {
				t.Fatal("with", goodClues[many], "it is", p, ok)
			}
		}
		for _, c := range goodClues {
			mustNotTell(t, impl.AddClue, p, c)
		}
	}
}
