package tests

import (
	"math"
	"reflect"
	"slices"
	"strings"
	"testing"

	"loop.example/g01337/impl"
)

// The tests of promise 11: every function accepts all arguments without panicking and modifies none of them.

// functions are the exported ones of the chapters that have landed.
var functions = map[string]any{
	"IsChain": impl.IsChain, "AreDays": impl.AreDays, "ChanceNext": impl.ChanceNext, "ChanceOfDays": impl.ChanceOfDays,
	"ChanceLater": impl.ChanceLater, "LongShare": impl.LongShare, "ChanceOfAny": impl.ChanceOfAny, "MeanRun": impl.MeanRun,
	"ChanceOfRun": impl.ChanceOfRun, "MeanUntil": impl.MeanUntil, "MeanWets": impl.MeanWets, "LikeliestDays": impl.LikeliestDays,
	"RunsOf": impl.RunsOf, "CountChanges": impl.CountChanges, "ChainOfDays": impl.ChainOfDays, "TurnChain": impl.TurnChain,
	"IsEven": impl.IsEven, "ChainText": impl.ChainText, "ParseChain": impl.ParseChain,
}

var badChains = []impl.Chain{
	{}, {Wets: 1, Dries: 2}, {Wets: 1, Dries: 2, Of: 11}, {Wets: 1, Dries: 2, Of: -4}, {Wets: 5, Dries: 2, Of: 4},
	{Wets: 1, Dries: 5, Of: 4}, {Wets: -1, Dries: 2, Of: 4}, {Wets: 1, Dries: -1, Of: 4}, {Wets: 11, Dries: 0, Of: 10},
	{Wets: math.MinInt, Dries: math.MinInt, Of: math.MinInt}, {Wets: math.MaxInt, Dries: math.MaxInt, Of: math.MaxInt},
	{Wets: math.MinInt, Dries: 1, Of: 10}, {Wets: 1, Dries: math.MaxInt, Of: 10}, {Wets: 1, Dries: 1, Of: math.MaxInt},
}

var badDays = []string{
	"", " ", "x", "D", "W", "h", "dx", "xd", "d w", "dw ", "dw\n", "\x00", "d\x00", "\xff", "\xe4\xf7", "dé", "ｄ",
	strings.Repeat("d", impl.MaxSeen+1), strings.Repeat("w", impl.MaxSeen+1), strings.Repeat("dw", 500),
}

// badDay are what is no day, though it may be days.
var badDay = append(slices.Clone(badDays), "dd", "dw", "ww", "ddwwwd", strings.Repeat("d", impl.MaxSeen))

func pools() map[reflect.Type][]reflect.Value {
	p := map[reflect.Type][]reflect.Value{}
	add := func(v any) { p[reflect.TypeOf(v)] = append(p[reflect.TypeOf(v)], reflect.ValueOf(v)) }
	for _, c := range badChains {
		add(c)
	}
	for _, c := range []impl.Chain{{Of: 1}, {Wets: 10, Dries: 10, Of: 10}, {Dries: 3, Of: 5}, {Wets: 3, Of: 5}, {Wets: 1, Dries: 2, Of: 4}} {
		add(c)
	}
	for _, s := range badDay {
		add(s)
	}
	for _, s := range []string{"d", "w", strings.Repeat("w", 8), strings.Repeat("dw", 5), strings.Repeat("d", 9), "1-2/4", "10-10/10", "1-2/11", "-/", "--//"} {
		add(s)
	}
	for _, n := range []int{math.MinInt, -1, 0, 1, 2, 7, 8, 9, 60, 61, 1 << 40, math.MaxInt} {
		add(n)
	}
	return p
}

// everyCall calls f with all lists of arguments of its types.
func everyCall(f reflect.Type, pool map[reflect.Type][]reflect.Value, args []reflect.Value, do func([]reflect.Value)) {
	if len(args) == f.NumIn() {
		do(slices.Clone(args))
		return
	}
	for _, v := range pool[f.In(len(args))] {
		everyCall(f, pool, append(args, v), do)
	}
}

// plain copies values out, with the bytes of their texts and numbers of their lists.
func plain(values []reflect.Value) []any {
	var list []any
	for _, v := range values {
		switch x := v.Interface().(type) {
		case string:
			list = append(list, strings.Clone(x))
		case []int:
			list = append(list, append([]int{}, x...))
		default:
			list = append(list, x)
		}
	}
	return list
}

// allZero tells whether all results before the last one are zero, an empty list being like nil.
func allZero(results []reflect.Value) bool {
	for _, r := range results[:len(results)-1] {
		if !r.IsZero() && !(r.Kind() == reflect.Slice && r.Len() == 0) {
			return false
		}
	}
	return true
}

func scribble(results []reflect.Value) {
	for _, r := range results {
		if list, ok := r.Interface().([]int); ok {
			for i := range list[:cap(list)] {
				list[:cap(list)][i] = -77
			}
		}
	}
}

func TestPromise11EveryFunctionAcceptsAllArguments(t *testing.T) {
	pool := pools()
	for name, f := range functions {
		t.Run(name, func(t *testing.T) {
			fine, failed := 0, 0
			v := reflect.ValueOf(f)
			everyCall(v.Type(), pool, nil, func(args []reflect.Value) {
				before := plain(args)
				defer func() {
					if r := recover(); r != nil {
						t.Fatal(name, before, "panics:", r)
					}
				}()
				first := v.Call(args)
				told := plain(first)
				if first[len(first)-1].Bool() {
					fine++
				} else if failed++; !allZero(first) {
					t.Fatal(name, before, "fails with", told)
				}
				scribble(first)
				if !reflect.DeepEqual(before, plain(args)) {
					t.Fatal(name, "changes", before, "to", plain(args))
				}
				if again := plain(v.Call(args)); !reflect.DeepEqual(told, again) {
					t.Fatal(name, before, "is first", told, "and then", again)
				}
			})
			if fine == 0 || failed == 0 {
				t.Fatal(name, "succeeds", fine, "times and fails", failed, "times")
			}
		})
	}
}

func mustNotTell(t *testing.T, f any, args ...any) {
	t.Helper()
	var in []reflect.Value
	for _, a := range args {
		in = append(in, reflect.ValueOf(a))
	}
	out := reflect.ValueOf(f).Call(in)
	if out[len(out)-1].Bool() || !allZero(out) {
		t.Errorf("%.200v of %.200v does not fail", plain(out), args)
	}
}

func TestNoChains(t *testing.T) {
	for _, c := range badChains {
		mustNotTell(t, impl.IsChain, c)
		mustNotTell(t, impl.ChanceNext, c, "d", "w")
		mustNotTell(t, impl.ChanceOfDays, c, "dw")
		mustNotTell(t, impl.ChanceLater, c, "d", "w", 2)
		mustNotTell(t, impl.LongShare, c, "d")
		mustNotTell(t, impl.ChanceOfAny, c, "dw")
		mustNotTell(t, impl.MeanRun, c, "d")
		mustNotTell(t, impl.ChanceOfRun, c, "d", 2)
		mustNotTell(t, impl.MeanUntil, c, "d", "w")
		mustNotTell(t, impl.MeanWets, c, "d", 2)
		mustNotTell(t, impl.LikeliestDays, c, "d", 2)
		mustNotTell(t, impl.TurnChain, c)
		mustNotTell(t, impl.IsEven, c)
		mustNotTell(t, impl.ChainText, c)
	}
	for _, c := range allChains() {
		if !impl.IsChain(c) {
			t.Error("no chain", c)
		}
	}
}

func TestNoDays(t *testing.T) {
	c := impl.Chain{Wets: 1, Dries: 2, Of: 4}
	for _, s := range badDays {
		mustNotTell(t, impl.AreDays, s)
		mustNotTell(t, impl.ChanceOfDays, c, s)
		mustNotTell(t, impl.ChanceOfAny, c, s)
		mustNotTell(t, impl.RunsOf, s)
		mustNotTell(t, impl.CountChanges, s)
		mustNotTell(t, impl.ChainOfDays, s)
	}
	for _, s := range badDay {
		for _, day := range kinds {
			mustNotTell(t, impl.ChanceNext, c, s, day)
			mustNotTell(t, impl.ChanceNext, c, day, s)
			mustNotTell(t, impl.ChanceLater, c, s, day, 2)
			mustNotTell(t, impl.ChanceLater, c, day, s, 2)
			mustNotTell(t, impl.MeanUntil, c, s, day)
			mustNotTell(t, impl.MeanUntil, c, day, s)
		}
		mustNotTell(t, impl.LongShare, c, s)
		mustNotTell(t, impl.MeanRun, c, s)
		mustNotTell(t, impl.ChanceOfRun, c, s, 2)
		mustNotTell(t, impl.MeanWets, c, s, 2)
		mustNotTell(t, impl.LikeliestDays, c, s, 2)
	}
}

// Limits that are met exactly are in the tests of promise 1.
func TestLimitsPassedByOne(t *testing.T) {
	c := impl.Chain{Wets: 1, Dries: 2, Of: 4}
	for _, day := range kinds {
		for _, n := range []int{math.MinInt, -1, impl.MaxDays + 1, math.MaxInt} {
			mustNotTell(t, impl.ChanceLater, c, day, "d", n)
			mustNotTell(t, impl.ChanceLater, c, day, "w", n)
			mustNotTell(t, impl.MeanWets, c, day, n)
			mustNotTell(t, impl.ChanceOfRun, c, day, n)
			mustNotTell(t, impl.LikeliestDays, c, day, n)
		}
		mustNotTell(t, impl.ChanceOfRun, c, day, 0)
		mustNotTell(t, impl.LikeliestDays, c, day, 0)
		mustNotTell(t, impl.ChanceOfDays, c, strings.Repeat(day, impl.MaxDays+2))
		mustNotTell(t, impl.ChanceOfDays, c, strings.Repeat(day, impl.MaxSeen))
		mustNotTell(t, impl.ChanceOfAny, c, strings.Repeat(day, impl.MaxDays+1))
		mustNotTell(t, impl.ChanceOfAny, c, strings.Repeat(day, impl.MaxSeen))
	}
}

func TestLimitsAreThoseOfTheDocument(t *testing.T) {
	if impl.MaxOf != 10 || impl.MaxDays != 8 || impl.MaxSeen != 60 {
		t.Error(impl.MaxOf, impl.MaxDays, impl.MaxSeen)
	}
}
