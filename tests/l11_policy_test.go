package tests

import (
	"fmt"
	"math"
	"slices"
	"strings"
	"sync"
	"testing"

	"loop.example/g00279/impl"
)

// The plain calls of a policy read chapter 12 once more: by counting, by a stack of bools, by a stack of texts, and by
// the grammar as it is written, asked of each piece of the words.
func plainIns(ins impl.Ins) bool {
	switch ins.Op {
	case 1:
		return plainName(ins.Key) && plainName(ins.Value) && !slices.Contains([]string{"not", "has"}, ins.Key)
	case 2:
		return plainName(ins.Key) && ins.Value == ""
	case 3, 4, 5:
		return ins == impl.Ins{Op: ins.Op}
	}
	return false
}

func plainPolicyRight(p []impl.Ins) bool {
	truths := 0
	for _, ins := range p {
		if !plainIns(ins) {
			return false
		}
		needs := []int{0, 0, 0, 1, 2, 2}[ins.Op]
		if truths < needs {
			return false
		}
		truths += 1 - needs
	}
	return truths == 1 && len(p) < 61
}

func plainPolicyEval(p []impl.Ins, labels []impl.Label) bool {
	if !plainPolicyRight(p) || len(labels) > 400 {
		return false
	}
	var stack []bool
	pop := func() bool {
		last := stack[len(stack)-1]
		stack = stack[:len(stack)-1]
		return last
	}
	for _, ins := range p {
		truth := false
		switch ins.Op {
		case 1, 2:
			for _, l := range labels {
				truth = truth || l.Key == ins.Key && (ins.Op == 2 || l.Value == ins.Value)
			}
		case 3:
			truth = !pop()
		case 4:
			second, first := pop(), pop()
			truth = first && second
		case 5:
			second, first := pop(), pop()
			truth = first || second
		}
		stack = append(stack, truth)
	}
	return stack[0]
}

func plainPolicyText(p []impl.Ins) string {
	if !plainPolicyRight(p) {
		return ""
	}
	type said struct {
		text string
		op   int64
	}
	var stack []said
	take := func(bracketed ...int64) string {
		last := stack[len(stack)-1]
		stack = stack[:len(stack)-1]
		if slices.Contains(bracketed, last.op) {
			return "( " + last.text + " )"
		}
		return last.text
	}
	for _, ins := range p {
		text := ""
		switch ins.Op {
		case 1:
			text = ins.Key + " = " + ins.Value
		case 2:
			text = "has " + ins.Key
		case 3:
			text = "not " + take(4, 5)
		case 4:
			second := take(4, 5)
			text = take(5) + " and " + second
		case 5:
			second := take(5)
			text = take() + " or " + second
		}
		stack = append(stack, said{text, ins.Op})
	}
	return stack[0].text
}

func plainWords(text string) []string {
	var out []string
	word := ""
	end := func() {
		if word != "" {
			out = append(out, word)
		}
		word = ""
	}
	for i := range len(text) {
		switch c := text[i : i+1]; c {
		case " ":
			end()
		case "(", ")":
			end()
			out = append(out, c)
		default:
			word += c
		}
	}
	end()
	return out
}

// grammar asks of pieces of the words, from a place on and up to another, whether they are read, a part or a factor.
type grammar struct {
	words []string
	known map[[3]int]found
}

type found struct {
	policy []impl.Ins
	is     bool
}

const readKind, partKind, factorKind = 0, 1, 2

func (g grammar) is(kind int, from int, to int) found {
	at := [3]int{kind, from, to}
	if f, ok := g.known[at]; ok {
		return f
	}
	f := found{}
	switch kind {
	case readKind:
		f = g.joined("or", impl.OpOr, readKind, partKind, from, to)
	case partKind:
		f = g.joined("and", impl.OpAnd, partKind, factorKind, from, to)
	case factorKind:
		f = g.factor(from, to)
	}
	g.known[at] = f
	return f
}

func (g grammar) joined(word string, op int64, kind int, below int, from int, to int) found {
	if f := g.is(below, from, to); f.is {
		return f
	}
	for i := from; i < to; i++ {
		if g.words[i] != word {
			continue
		}
		second := g.is(below, i+1, to)
		if !second.is {
			continue
		}
		if first := g.is(kind, from, i); first.is {
			return found{slices.Concat(first.policy, second.policy, []impl.Ins{{Op: op}}), true}
		}
	}
	return found{}
}

func (g grammar) factor(from int, to int) found {
	if to-from < 2 {
		return found{}
	}
	w := g.words[from:to]
	switch {
	case w[0] == "not":
		f := g.is(factorKind, from+1, to)
		return found{append(slices.Clone(f.policy), impl.Ins{Op: 3}), f.is}
	case w[0] == "(" && w[len(w)-1] == ")":
		return g.is(readKind, from+1, to-1)
	case w[0] == "has":
		return found{[]impl.Ins{{Op: 2, Key: w[1]}}, len(w) == 2 && plainName(w[1])}
	case len(w) == 3 && w[1] == "=":
		return found{[]impl.Ins{{Op: 1, Key: w[0], Value: w[2]}}, plainName(w[0]) && plainName(w[2])}
	}
	return found{}
}

func readByGrammar(words []string) found {
	return grammar{words, map[[3]int]found{}}.is(readKind, 0, len(words))
}

// mayBegin: is there a text that begins with these words? What they lack is a factor or its end, and brackets.
func mayBegin(words []string) bool {
	open := 0
	for _, w := range words {
		open += map[string]int{"(": 1, ")": -1}[w]
	}
	if open < 0 {
		return false
	}
	for _, lacking := range [][]string{nil, {"=", "a"}, {"a"}, {"a", "=", "a"}} {
		if readByGrammar(slices.Concat(words, lacking, slices.Repeat([]string{")"}, open))).is {
			return true
		}
	}
	return false
}

func plainPolicyRead(text string) impl.PolicyOut {
	if len(text) > impl.MaxBytes {
		return impl.PolicyOut{Code: impl.ErrSize}
	}
	words := plainWords(text)
	f := readByGrammar(words)
	if f.is && len(f.policy) > 60 {
		return impl.PolicyOut{Code: impl.ErrForm}
	}
	if f.is {
		return impl.PolicyOut{Policy: f.policy}
	}
	// What no text begins with, none begins with when a word more stands behind it.
	least, most := 0, len(words)
	for least < most {
		if middle := (least + most) / 2; mayBegin(words[:middle+1]) {
			least = middle + 1
		} else {
			most = middle
		}
	}
	return impl.PolicyOut{At: int64(least), Code: impl.ErrSyntax}
}

func is(key string, value string) impl.Ins {
	return impl.Ins{Op: impl.OpIs, Key: key, Value: value}
}

func has(key string) impl.Ins {
	return impl.Ins{Op: impl.OpHas, Key: key}
}

func op(op int64) impl.Ins {
	return impl.Ins{Op: op}
}

func wantPolicyRead(t *testing.T, text string, want impl.PolicyOut) {
	t.Helper()
	if got := impl.PolicyRead(text); told(got) != told(want) {
		t.Errorf("PolicyRead(%s): got %s, want %s", show(text), showPolicy(got), showPolicy(want))
	}
}

func showPolicy(o impl.PolicyOut) string {
	return show(fmt.Sprint(o.Policy)) + fmt.Sprintf(" At %d Code %d", o.At, o.Code)
}

func wantNoPolicy(t *testing.T, text string, at int64) {
	t.Helper()
	wantPolicyRead(t, text, impl.PolicyOut{At: at, Code: impl.ErrSyntax})
}

// wantAsTold: the call tells what the plain one does, and its text is read as the same.
func wantAsTold(t *testing.T, text string) {
	t.Helper()
	got := impl.PolicyRead(text)
	wantPolicyRead(t, text, plainPolicyRead(text))
	if got.Code == impl.OK {
		wantRightPolicy(t, "what is read of "+show(text), got.Policy)
	}
}

// wantRightPolicy is promise 16.
func wantRightPolicy(t *testing.T, what string, p []impl.Ins) {
	t.Helper()
	if !impl.PolicyRight(p) {
		t.Errorf("%s: PolicyRight is false, of %v", what, p)
	}
	text := impl.PolicyText(p)
	if want := plainPolicyText(p); text != want || text == "" {
		t.Errorf("%s: PolicyText: got %s, want %s", what, show(text), show(want))
	}
	wantPolicyRead(t, text, impl.PolicyOut{Policy: p})
	for _, l := range someLabelLists() {
		wantEval(t, what, p, l, plainPolicyEval(p, l))
	}
}

func wantWrongPolicy(t *testing.T, what string, p []impl.Ins) {
	t.Helper()
	if impl.PolicyRight(p) || plainPolicyRight(p) {
		t.Errorf("%s: PolicyRight is true, of %s", what, show(fmt.Sprint(p)))
	}
	if got := impl.PolicyText(p); got != "" {
		t.Errorf("%s: PolicyText: got %s", what, show(got))
	}
	for _, l := range someLabelLists() {
		wantEval(t, what, p, l, false)
	}
}

func wantEval(t *testing.T, what string, p []impl.Ins, l []impl.Label, want bool) {
	t.Helper()
	if got := impl.PolicyEval(p, l); got != want {
		t.Errorf("%s: PolicyEval of %s and %s: got %t", what, show(fmt.Sprint(p)), show(fmt.Sprint(l)), got)
	}
}

// someLabelLists are each choice of three Labels, of which two have one Key.
func someLabelLists() [][]impl.Label {
	all := []impl.Label{{Key: "a", Value: "b"}, {Key: "a", Value: "c"}, {Key: "b", Value: "b"}}
	var out [][]impl.Label
	for bits := range 8 {
		var l []impl.Label
		for i, label := range all {
			if bits>>i&1 == 1 {
				l = append(l, label)
			}
		}
		out = append(out, l)
	}
	return out
}

// eachPolicy tells every list of so many instructions at most, right or not.
func eachPolicy(from []impl.Ins, most int, take func([]impl.Ins)) {
	var further func(p []impl.Ins)
	further = func(p []impl.Ins) {
		take(p)
		for i := 0; i < len(from) && len(p) < most; i++ {
			further(append(slices.Clone(p), from[i]))
		}
	}
	further(nil)
}

// madePolicy is a right one of so many instructions, of numbers that seem to have no order.
func madePolicy(size int, next func(int) int) []impl.Ins {
	names := []string{"a", "b", "c", "and", "or", "z-9", strings.Repeat("n", 40)}
	if size == 1 && next(2) == 0 {
		return []impl.Ins{has(append(names, "not", "has")[next(9)])}
	}
	if size == 1 {
		return []impl.Ins{is(names[next(7)], append(names, "not", "has")[next(9)])}
	}
	if size == 2 || next(4) == 0 {
		return append(madePolicy(size-1, next), op(impl.OpNot))
	}
	first := 1 + next(size-2)
	return slices.Concat(madePolicy(first, next), madePolicy(size-1-first, next), []impl.Ins{op(int64(4 + next(2)))})
}

func mixedNumbers(x int64) func(int) int {
	return func(most int) int {
		x = (x*48271 + 17) % 2147483647
		return int(x / 7 % int64(most))
	}
}

// chainOf joins so many truths, each with what stands ahead of it.
func chainOf(count int, o int64) []impl.Ins {
	out := []impl.Ins{has("a")}
	for range count - 1 {
		out = append(out, has("b"), op(o))
	}
	return out
}

// deepOf joins them from the last one on.
func deepOf(count int, o int64) []impl.Ins {
	return append(slices.Repeat([]impl.Ins{has("a")}, count), slices.Repeat([]impl.Ins{op(o)}, count-1)...)
}

// turnedOften has so many instructions.
func turnedOften(size int) []impl.Ins {
	return append([]impl.Ins{is("a", "b")}, slices.Repeat([]impl.Ins{op(impl.OpNot)}, size-1)...)
}

func TestKnownPolicies(t *testing.T) {
	if impl.MaxPolicy != 60 || impl.OpIs != 1 || impl.OpHas != 2 || impl.OpNot != 3 || impl.OpAnd != 4 || impl.OpOr != 5 {
		t.Error("a constant is another one")
	}
	not, and, or := op(3), op(4), op(5)
	for text, p := range map[string][]impl.Ins{
		"a = b":                               {is("a", "b")},
		"has a":                               {has("a")},
		"not a = b":                           {is("a", "b"), not},
		"not has bad":                         {has("bad"), not},
		"not not has a":                       {has("a"), not, not},
		"not not not a = b":                   {is("a", "b"), not, not, not},
		"a = b and has c":                     {is("a", "b"), has("c"), and},
		"has a or b = c":                      {has("a"), is("b", "c"), or},
		"not has a and has b":                 {has("a"), not, has("b"), and},
		"has a and not has b":                 {has("a"), has("b"), not, and},
		"not ( has a and has b )":             {has("a"), has("b"), and, not},
		"not ( has a or has b )":              {has("a"), has("b"), or, not},
		"not not ( has a or has b )":          {has("a"), has("b"), or, not, not},
		"has a and has b and has c":           {has("a"), has("b"), and, has("c"), and},
		"has a and ( has b and has c )":       {has("a"), has("b"), has("c"), and, and},
		"has a or has b or has c":             {has("a"), has("b"), or, has("c"), or},
		"has a or ( has b or has c )":         {has("a"), has("b"), has("c"), or, or},
		"has a and has b or has c":            {has("a"), has("b"), and, has("c"), or},
		"has a or has b and has c":            {has("a"), has("b"), has("c"), and, or},
		"( has a or has b ) and has c":        {has("a"), has("b"), or, has("c"), and},
		"has a and ( has b or has c )":        {has("a"), has("b"), has("c"), or, and},
		"has a and has b or has c and has d":  {has("a"), has("b"), and, has("c"), has("d"), and, or},
		"and = and and and = or":              {is("and", "and"), is("and", "or"), and},
		"or = or or or = and":                 {is("or", "or"), is("or", "and"), or},
		"has has and has not":                 {has("has"), has("not"), and},
		"not has not or has and and has or":   {has("not"), not, has("and"), has("or"), and, or},
		"a = not and b = has":                 {is("a", "not"), is("b", "has"), and},
		"notes = x and hash = y":              {is("notes", "x"), is("hash", "y"), and},
		"by = us and ( has os or not has b )": {is("by", "us"), has("os"), has("b"), not, or, and},
	} {
		if got := impl.PolicyText(p); got != text {
			t.Errorf("PolicyText: got %s, want %s", show(got), show(text))
		}
		wantPolicyRead(t, text, impl.PolicyOut{Policy: p})
		wantRightPolicy(t, text, p)
	}
}

// Promise 16; and each list of few instructions that is no policy, for too few truths or for too many.
func TestEachShortPolicy(t *testing.T) {
	right := 0
	eachPolicy([]impl.Ins{is("a", "b"), has("a"), op(3), op(4), op(5)}, 6, func(p []impl.Ins) {
		if plainPolicyRight(p) {
			right++
			wantRightPolicy(t, "right", p)
		} else {
			wantWrongPolicy(t, "wrong", p)
		}
	})
	if right != 556 {
		t.Errorf("%d lists are right", right)
	}
}

func TestTooFewTruthsAndTooMany(t *testing.T) {
	not, and, or, a := op(3), op(4), op(5), has("a")
	for what, p := range map[string][]impl.Ins{
		"nothing": nil, "an empty list": {}, "none to turn": {not}, "none to join by and": {and}, "none to join by or": {or}, "none to turn, one behind": {not, a},
		"one to join by and": {a, and}, "one to join by or": {a, or}, "one, turned, to join": {a, not, and}, "and ahead": {a, and, a}, "or ahead": {a, or, a}, "and between, two in the end": {a, a, and, a},
		"two in the end": {a, a}, "three in the end": {a, a, a}, "two, one turned": {a, a, not}, "one too many": {a, a, a, or}, "joined once too often": {a, a, or, or}, "too few, and made good": {a, and, a, a, and},
	} {
		wantWrongPolicy(t, what, p)
	}
}

func TestHowManyInstructions(t *testing.T) {
	for size := 1; size < 70; size++ {
		list := map[string][]impl.Ins{"turned": turnedOften(size)}
		if size%2 == 1 {
			for _, o := range []int64{4, 5} {
				list[fmt.Sprint("a chain of ", o)] = chainOf(size/2+1, o)
				list[fmt.Sprint("deep, of ", o)] = deepOf(size/2+1, o)
			}
		} else {
			list["a chain, turned"] = append(chainOf(size/2, 4), op(3))
			list["deep, turned"] = append(deepOf(size/2, 5), op(3))
		}
		for what, p := range list {
			what = fmt.Sprint(size, " instructions, ", what)
			if len(p) != size {
				t.Fatalf("%s: there are %d", what, len(p))
			}
			if size <= 60 {
				wantRightPolicy(t, what, p)
			} else {
				wantWrongPolicy(t, what, p)
			}
		}
	}
	for _, size := range []int{61, impl.MaxList - 1, impl.MaxList, impl.MaxList + 1, 2*impl.MaxList + 1, 10001} {
		wantWrongPolicy(t, "turned too often", turnedOften(size))
		wantWrongPolicy(t, "a chain too long", chainOf(size/2+1, 4))
	}
}

// Each wrong instruction stands alone, or, where another one could, in a policy.
func TestInstructionsThatAreNotRight(t *testing.T) {
	wrong := map[string]impl.Ins{"the zero one": {}}
	for _, o := range []int64{0, 6, 7, -1, -2, -5, 1 << 32, 1<<32 + 1, 1<<32 + 2, 1<<32 + 3, -1<<32 + 4, 257, 258, math.MaxInt64, math.MinInt64, math.MinInt64 + 2} {
		wrong[fmt.Sprint("Op ", o)] = op(o)
		wrong[fmt.Sprint("Op ", o, " with a Key")] = impl.Ins{Op: o, Key: "a"}
		wrong[fmt.Sprint("Op ", o, " with both")] = impl.Ins{Op: o, Key: "a", Value: "b"}
	}
	for _, name := range noNames() {
		wrong["OpIs, the Key "+show(name)] = is(name, "b")
		wrong["OpIs, the Value "+show(name)] = is("a", name)
		wrong["OpIs, both "+show(name)] = is(name, name)
		wrong["OpHas, the Key "+show(name)] = has(name)
		if name == "" {
			continue
		}
		wrong["OpHas, the Value "+show(name)] = impl.Ins{Op: 2, Key: "a", Value: name}
		for o := int64(3); o <= 5; o++ {
			wrong[fmt.Sprint("Op ", o, ", the Key ", show(name))] = impl.Ins{Op: o, Key: name}
			wrong[fmt.Sprint("Op ", o, ", the Value ", show(name))] = impl.Ins{Op: o, Value: name}
		}
	}
	for o := int64(2); o <= 5; o++ {
		wrong[fmt.Sprint("Op ", o, " with a Value")] = impl.Ins{Op: o, Value: "b"}
		wrong[fmt.Sprint("Op ", o, " with both")] = impl.Ins{Op: o, Key: "a", Value: "b"}
	}
	for o := int64(3); o <= 5; o++ {
		wrong[fmt.Sprint("Op ", o, " with a Key")] = impl.Ins{Op: o, Key: "a"}
	}
	for _, key := range []string{"not", "has"} {
		wrong["OpIs of "+key] = is(key, "b")
	}
	for what, ins := range wrong {
		for _, p := range [][]impl.Ins{{ins}, {has("a"), ins}, {has("a"), has("b"), ins}, {ins, op(3)}, {has("a"), ins, op(4)}, {ins, has("a"), op(5)}, {has("a"), has("a"), has("a"), ins, op(5)}} {
			wantWrongPolicy(t, what, p)
		}
	}
}

func TestNamesInPolicies(t *testing.T) {
	for _, name := range []string{"a", "z", "b0", "a-", "z-9", strings.Repeat("q", 39), strings.Repeat("q", 40), "z" + strings.Repeat("-", 39), "and", "or", "is", "no", "nota", "hass", "no-t"} {
		for _, p := range [][]impl.Ins{{is(name, "b")}, {is("a", name)}, {is(name, name)}, {has(name)}} {
			wantRightPolicy(t, name, p)
			wantRightPolicy(t, name+" turned", append(p, op(3)))
			wantRightPolicy(t, name+" twice", slices.Concat(p, p, []impl.Ins{op(4)}))
		}
	}
	for _, name := range []string{"not", "has"} {
		wantRightPolicy(t, name, []impl.Ins{has(name)})
		wantRightPolicy(t, name, []impl.Ins{is("a", name)})
		wantRightPolicy(t, name, []impl.Ins{is("and", name), has(name), op(5), op(3)})
	}
	for size := range 45 {
		name := strings.Repeat("n", size)
		for _, p := range [][]impl.Ins{{is(name, "b")}, {is("a", name)}, {has(name)}} {
			if got := impl.PolicyRight(p); got != (1 <= size && size <= 40) {
				t.Errorf("a name of %d bytes: PolicyRight is %t", size, got)
			}
		}
	}
}

func TestTextsOfEachTwoOps(t *testing.T) {
	kinds := map[string][]impl.Ins{
		"k = v": {is("k", "v")}, "has k": {has("k")}, "not has k": {has("k"), op(3)}, "has k and has m": {has("k"), has("m"), op(4)}, "has k or has m": {has("k"), has("m"), op(5)},
	}
	within := func(text string, bracketed ...string) string {
		for _, word := range bracketed {
			if strings.Contains(text, word) {
				return "( " + text + " )"
			}
		}
		return text
	}
	for first, p := range kinds {
		for text, want := range map[string]string{
			impl.PolicyText(append(slices.Clone(p), op(3))):                                 "not " + within(first, " and ", " or "),
			impl.PolicyText(append(slices.Clone(p), op(3), op(3))):                          "not not " + within(first, " and ", " or "),
			impl.PolicyText(slices.Concat(p, []impl.Ins{op(3), has("x"), op(4)})):           "not " + within(first, " and ", " or ") + " and has x",
			impl.PolicyText(slices.Concat([]impl.Ins{has("x")}, p, []impl.Ins{op(4)})):      "has x and " + within(first, " and ", " or "),
			impl.PolicyText(slices.Concat([]impl.Ins{has("x")}, p, []impl.Ins{op(5)})):      "has x or " + within(first, " or "),
			impl.PolicyText(slices.Concat(p, []impl.Ins{has("x"), op(4)})):                  within(first, " or ") + " and has x",
			impl.PolicyText(slices.Concat(p, []impl.Ins{has("x"), op(5)})):                  first + " or has x",
			impl.PolicyText(slices.Concat(p, []impl.Ins{has("x"), op(5), op(3)})):           "not ( " + first + " or has x )",
			impl.PolicyText(slices.Concat(p, []impl.Ins{has("x"), op(4), has("y"), op(4)})): within(first, " or ") + " and has x and has y",
		} {
			if text != want {
				t.Errorf("got %s, want %s", show(text), show(want))
			}
		}
		for second, q := range kinds {
			and, or := slices.Concat(p, q, []impl.Ins{op(4)}), slices.Concat(p, q, []impl.Ins{op(5)})
			if got, want := impl.PolicyText(and), within(first, " or ")+" and "+within(second, " and ", " or "); got != want {
				t.Errorf("got %s, want %s", show(got), show(want))
			}
			if got, want := impl.PolicyText(or), first+" or "+within(second, " or "); got != want {
				t.Errorf("got %s, want %s", show(got), show(want))
			}
			wantRightPolicy(t, "and", and)
			wantRightPolicy(t, "or", or)
		}
	}
}

func TestEvalOfLabels(t *testing.T) {
	label := func(key string, value string) impl.Label { return impl.Label{Key: key, Value: value} }
	full := slices.Repeat([]impl.Label{label("x", "y")}, impl.MaxList)
	lastOne := append(slices.Clone(full[1:]), label("a", "b"))
	for _, c := range []struct {
		what   string
		labels []impl.Label
		is     bool
		has    bool
	}{
		{"none", nil, false, false},
		{"an empty list", []impl.Label{}, false, false},
		{"the label", []impl.Label{label("a", "b")}, true, true},
		{"another Value", []impl.Label{label("a", "c")}, false, true},
		{"no Value", []impl.Label{label("a", "")}, false, true},
		{"a longer Value", []impl.Label{label("a", "b\x00")}, false, true},
		{"a Value in capitals", []impl.Label{label("a", "B")}, false, true},
		{"another Key", []impl.Label{label("b", "b")}, false, false},
		{"no Key", []impl.Label{label("", "b")}, false, false},
		{"a longer Key", []impl.Label{label("aa", "b")}, false, false},
		{"a Key and a blank", []impl.Label{label("a ", "b")}, false, false},
		{"a Key in capitals", []impl.Label{label("A", "b")}, false, false},
		{"Key and Value of two labels", []impl.Label{label("a", "c"), label("c", "b")}, false, true},
		{"the other way round", []impl.Label{label("b", "a")}, false, false},
		{"as one text", []impl.Label{label("a = b", ""), label("", "a = b")}, false, false},
		{"one Key twice, the second", []impl.Label{label("a", "c"), label("a", "b")}, true, true},
		{"one Key twice, the first", []impl.Label{label("a", "b"), label("a", "c")}, true, true},
		{"the same twice", []impl.Label{label("a", "b"), label("a", "b")}, true, true},
		{"out of order", []impl.Label{label("z", "c"), label("a", "b"), label("c", "c")}, true, true},
		{"among labels that are no names", []impl.Label{label("", ""), label("\xff", "A"), label(mixed(300), mixed(impl.MaxBytes+1)), label("a", "b")}, true, true},
		{"MaxList others", full, false, false},
		{"the last of MaxList", lastOne, true, true},
		{"one more", append([]impl.Label{label("a", "b")}, full...), false, false},
		{"many more", slices.Repeat([]impl.Label{label("a", "b")}, 5000), false, false},
	} {
		few := len(c.labels) <= impl.MaxList
		wantEval(t, c.what, []impl.Ins{is("a", "b")}, c.labels, c.is)
		wantEval(t, c.what, []impl.Ins{has("a")}, c.labels, c.has)
		wantEval(t, c.what, []impl.Ins{is("a", "b"), op(3)}, c.labels, few && !c.is)
		wantEval(t, c.what, []impl.Ins{has("a"), op(3)}, c.labels, few && !c.has)
		wantEval(t, c.what, []impl.Ins{has("a"), is("a", "b"), op(3), op(4)}, c.labels, few && c.has && !c.is)
		wantEval(t, c.what, []impl.Ins{has("a"), op(3), is("a", "b"), op(5)}, c.labels, few && (!c.has || c.is))
		wantEval(t, c.what, turnedOften(60), c.labels, few && !c.is)
		wantEval(t, c.what, turnedOften(61), c.labels, false)
		wantEval(t, c.what, []impl.Ins{has("a"), has("a"), op(3)}, c.labels, false)
		wantEval(t, c.what, nil, c.labels, false)
	}
}

// pastTheLimit: a policy that has too many instructions is no policy.
func pastTheLimit(policies ...[]impl.Ins) bool {
	return slices.ContainsFunc(policies, func(p []impl.Ins) bool { return len(p) > impl.MaxPolicy })
}

// Promise 17.
func wantTurned(t *testing.T, p []impl.Ins, q []impl.Ins, l []impl.Label) {
	t.Helper()
	not := func(p []impl.Ins) []impl.Ins { return append(slices.Clone(p), op(3)) }
	join := func(p []impl.Ins, q []impl.Ins, o int64) []impl.Ins { return slices.Concat(p, q, []impl.Ins{op(o)}) }
	if pastTheLimit(join(not(p), not(q), 4), not(not(p))) {
		t.Fatalf("%d and %d instructions are too many", len(p), len(q))
	}
	both, either := impl.PolicyEval(p, l) && impl.PolicyEval(q, l), impl.PolicyEval(p, l) || impl.PolicyEval(q, l)
	for what, c := range map[string]struct {
		policy []impl.Ins
		want   bool
	}{
		"both": {join(p, q, 4), both}, "one of both": {join(p, q, 5), either},
		"not both": {not(join(p, q, 4)), !both}, "not the one or not the other": {join(not(p), not(q), 5), !both},
		"not one of both": {not(join(p, q, 5)), !either}, "neither": {join(not(p), not(q), 4), !either},
		"turned": {not(p), !impl.PolicyEval(p, l)}, "turned twice": {not(not(p)), impl.PolicyEval(p, l)},
	} {
		wantEval(t, what, c.policy, l, c.want)
	}
}

func TestWhatIsNotBoth(t *testing.T) {
	var short [][]impl.Ins
	eachPolicy([]impl.Ins{is("a", "b"), has("a"), has("b"), op(3), op(4), op(5)}, 3, func(p []impl.Ins) {
		if plainPolicyRight(p) {
			short = append(short, p)
		}
	})
	next := mixedNumbers(31415)
	for range 30 {
		short = append(short, madePolicy(20+next(9), next))
	}
	for i, p := range short {
		for j, q := range short {
			wantTurned(t, p, q, someLabelLists()[(i+j)%8])
			wantTurned(t, p, q, nil)
		}
	}
	many := append(slices.Repeat([]impl.Label{{Key: "x", Value: "y"}, {Key: "", Value: "\xff"}}, impl.MaxList/2-1), impl.Label{Key: "b", Value: "z"}, impl.Label{Key: "a", Value: "b"})
	for _, p := range short {
		wantTurned(t, p, short[0], many)
	}
}

// Promise 16.
func TestMadePoliciesComeBack(t *testing.T) {
	next := mixedNumbers(27182)
	for size := 1; size <= 60; size++ {
		for range 12 {
			p := madePolicy(size, next)
			if len(p) != size {
				t.Fatalf("made are %d of %d instructions", len(p), size)
			}
			wantRightPolicy(t, "made", p)
		}
	}
}

func TestBlanksAndBrackets(t *testing.T) {
	want := impl.PolicyOut{Policy: []impl.Ins{is("a", "b"), has("c"), has("d"), op(5), op(3), op(4)}}
	for _, text := range []string{
		"a = b and not ( has c or has d )", "a = b and not(has c or has d)", "a = b and not (has c or has d )", " a = b and not ( has c or has d )", "a = b and not ( has c or has d ) ",
		"   a  =   b    and  not   (  has     c or has  d  )     ", "(a = b)and(not(has c or has d))", "((a = b)and not((has c)or((has d))))", "( ( ( a = b ) and ( not ( ( has c ) or ( has d ) ) ) ) )",
		"(a = b and not (has c or has d))", "( a = b ) and not ( ( has c or has d ) )", strings.Repeat(" ", 5000) + "a = b" + strings.Repeat(" ", 5000) + "and not(has c or has d)" + strings.Repeat(" ", 5000),
	} {
		wantPolicyRead(t, text, want)
		wantAsTold(t, text)
	}
	for depth := range 40 {
		text := strings.Repeat("(", depth) + "has a" + strings.Repeat(")", depth)
		wantPolicyRead(t, text, impl.PolicyOut{Policy: []impl.Ins{has("a")}})
		wantNoPolicy(t, text+")", int64(2*depth+2))
		wantNoPolicy(t, "("+text, int64(2*depth+3))
		wantNoPolicy(t, text+"(", int64(2*depth+2))
		wantNoPolicy(t, text+" has a", int64(2*depth+2))
		wantNoPolicy(t, strings.Repeat("( ", depth), int64(depth))
		wantNoPolicy(t, strings.Repeat("(", depth)+")", int64(depth))
		wantNoPolicy(t, strings.Repeat("( not ", depth), int64(2*depth))
	}
	for b := range 256 {
		c := string([]byte{byte(b)})
		for _, text := range []string{"has" + c + "a", c + "has a", "has a" + c, "a" + c + "= b", "a =" + c + "b", "a = b" + c + "and has d", "not" + c + "has d", "has " + c, "a " + c + " b", c + " = b", "has a " + c + " has b", c} {
			wantAsTold(t, text)
		}
	}
}

func TestTextsThatAreNoPolicy(t *testing.T) {
	for text, at := range map[string]int64{
		"": 0, " ": 0, "     ": 0, "a": 1, "=": 0, "a =": 2, "a b": 1, "a = =": 2, "a = b c": 3, "a = b = c": 3, "a == b": 1, "a= b": 0, "a =b": 1, "a=b": 0, "A = b": 0,
		"a = B": 2, "= a": 0, "a = (": 2, "a ( = b": 1, "( a": 2, "( a )": 2, "a = )": 2,
		"has": 1, "has =": 1, "has (": 1, "has )": 1, "has A": 1, "has a b": 2, "has a =": 2, "has a = b": 2, "has = b": 1, "has has = b": 2, "has not a": 2, "has ( a )": 1, "has a has b": 2, "has has has": 2,
		"not": 1, "not not": 2, "not =": 1, "not = b": 1, "not a": 2, "not and": 2, "not )": 1, "not has": 2, "not ( )": 2, "not ( has a": 4, "not has a not": 3, "not not not = b": 3, "not A": 1,
		"and": 1, "or": 1, "and and": 1, "and has a": 1, "or has a": 1, "or or = b": 1, "and = b and": 4, "has a and": 3, "has a or": 3, "has a and and": 4, "has a and or": 4,
		"has a or and has b": 4, "has a and and = b or": 7, "has a and )": 3, "has a or )": 3, "has a and has": 4, "has a and b": 4, "has a and b =": 5,
		"(": 1, ")": 0, "( )": 1, ") (": 0, "has a )": 2, "( has a": 3, "( has a ) )": 4, "( has a ) ( has b )": 4, "( has a ) has b": 4, "( has a ) = b": 4, "( a ) = b": 2,
		"( has a and )": 4, "( ( has a )": 5, "( has a ( has b )": 3, "has a ( has b )": 2, "not ( has a ) )": 5, "( has a or ( has b and has c )": 11,
		"has a\tand has b": 1, "has a and\thas b": 2, "has\ta": 0, "has a\n": 1, "\nhas a": 0, "has a,": 1, "has a, has b": 1, "has a & has b": 2, "has a AND has b": 2,
		"NOT has a": 0, "Has a": 0, "has a ; x": 2, "has a or [ has b ]": 3, "has \xc2\xa0a": 1, "has\xc2\xa0a": 0, "has\u2003a": 0, "has \xff": 1, "has \x00": 1, "\x00": 0,
		"has " + strings.Repeat("a", 41): 1, strings.Repeat("a", 41) + " = b": 0, "a = " + strings.Repeat("a", 41): 2, "has 0a": 1, "has -a": 1, "has a_b": 1, "0 = b": 0, "a = 0": 2, "a = -": 2,
	} {
		wantNoPolicy(t, text, at)
		wantAsTold(t, text)
	}
	for _, name := range noNames() {
		if strings.Trim(name, " ") != name || name == "" || strings.Contains(name, " ") || len(name) > 1000 {
			continue
		}
		wantNoPolicy(t, name, 0)
		wantNoPolicy(t, "has "+name, 1)
		wantNoPolicy(t, name+" = b", 0)
		wantNoPolicy(t, "a = "+name, 2)
		wantNoPolicy(t, "a "+name+" b", 1)
		wantNoPolicy(t, "has a "+name+" has b", 2)
		wantNoPolicy(t, "not ( has a and "+name+" = b )", 5)
	}
}

// Each text of few words is read as told; behind words that no text begins with nothing is told but the first of them.
func TestEachTextOfFewWords(t *testing.T) {
	all := []string{"a", "=", "(", ")", "not", "has", "and", "or", "A"}
	read := 0
	var further func(words []string, open bool)
	further = func(words []string, open bool) {
		text := strings.Join(words, " ")
		want := plainPolicyRead(text)
		wantPolicyRead(t, text, want)
		if want.Code == impl.OK {
			read++
			wantRightPolicy(t, text, want.Policy)
		}
		for i := 0; i < len(all) && open && len(words) < 6; i++ {
			further(append(slices.Clone(words), all[i]), want.Code == impl.OK || want.At == int64(len(words)))
		}
	}
	further(nil, true)
	if read < 200 {
		t.Errorf("only %d texts are read", read)
	}
}

// From texts of made policies words are taken away, put in, told twice, and changed for others.
func TestChangedTextsAreReadAsTold(t *testing.T) {
	next := mixedNumbers(16180)
	others := []string{"a", "=", "(", ")", "not", "has", "and", "or", "A", "b c", "()", ")(", "not not"}
	codes := map[int64]int{}
	for range 150 {
		words := strings.Split(impl.PolicyText(madePolicy(1+next(12), next)), " ")
		at := next(len(words))
		other := others[next(len(others))]
		for _, changed := range [][]string{
			slices.Delete(slices.Clone(words), at, at+1), slices.Insert(slices.Clone(words), at, words[at]), slices.Insert(slices.Clone(words), at, other),
			append(append(slices.Clone(words[:at]), other), words[at+1:]...), append(slices.Clone(words), other), words[:at], words[at:], slices.Concat(words[at:], words[:at]),
		} {
			text := strings.Join(changed, " ")
			wantAsTold(t, text)
			wantPolicyRead(t, strings.Join(changed, "   ")+" ", plainPolicyRead(text))
			codes[impl.PolicyRead(text).Code]++
		}
	}
	if codes[impl.OK] < 100 || codes[impl.ErrSyntax] < 100 {
		t.Errorf("the Codes are %v", codes)
	}
}

func TestTextsOfTooManyInstructions(t *testing.T) {
	for count := 20; count < 40; count++ {
		for _, word := range []string{" and ", " or "} {
			text := strings.Repeat("has a"+word, count-1) + "has a"
			want := impl.PolicyOut{Code: impl.ErrForm}
			if count <= 30 {
				want = impl.PolicyOut{Policy: impl.PolicyRead(text).Policy}
			}
			if count <= 30 && len(want.Policy) != 2*count-1 {
				t.Errorf("%d truths are read as %d instructions", count, len(want.Policy))
			}
			wantPolicyRead(t, text, want)
			wantAsTold(t, text)
			// A word that cannot stand there is told first.
			wantNoPolicy(t, text+" has", int64(3*count-1))
			wantNoPolicy(t, text+word, int64(3*count))
			wantNoPolicy(t, "("+text, int64(3*count))
		}
	}
	for count := 50; count < 70; count++ {
		text := strings.Repeat("not ", count) + "a = b"
		want := impl.PolicyOut{Code: impl.ErrForm}
		if count < 60 {
			want = impl.PolicyOut{Policy: turnedOften(count + 1)}
		}
		wantPolicyRead(t, text, want)
		wantPolicyRead(t, "( "+text+" )", want)
	}
	for count := range 70 {
		text := strings.Repeat("not ", count) + "( has a and has b )"
		wantAsTold(t, text)
		if got := impl.PolicyRead(text).Code == impl.OK; got != (count+3 <= 60) {
			t.Errorf("%d turns of three instructions: read is %t", count, got)
		}
	}
}

// longText has so many bytes: the piece again and again, blanks between it and its end.
func longText(size int, begin string, piece string, end string) string {
	count := (size - len(begin) - len(end)) / len(piece)
	text := begin + strings.Repeat(piece, count)
	return text + strings.Repeat(" ", size-len(text)-len(end)) + end
}

func TestLongTexts(t *testing.T) {
	const most = impl.MaxBytes
	deep := (most - 5) / 2
	for what, c := range map[string]struct {
		text string
		want impl.PolicyOut
	}{
		"blanks":                   {strings.Repeat(" ", most), impl.PolicyOut{Code: impl.ErrSyntax}},
		"open brackets":            {strings.Repeat("(", most), impl.PolicyOut{At: most, Code: impl.ErrSyntax}},
		"open brackets, apart":     {strings.Repeat("( ", most/2), impl.PolicyOut{At: most / 2, Code: impl.ErrSyntax}},
		"closed brackets":          {strings.Repeat(")", most), impl.PolicyOut{Code: impl.ErrSyntax}},
		"both in turn":             {strings.Repeat("()", most/2), impl.PolicyOut{At: 1, Code: impl.ErrSyntax}},
		"half and half":            {strings.Repeat("(", most/2) + strings.Repeat(")", most/2), impl.PolicyOut{At: most / 2, Code: impl.ErrSyntax}},
		"not":                      {strings.Repeat("not ", most/4), impl.PolicyOut{At: most / 4, Code: impl.ErrSyntax}},
		"not and brackets":         {strings.Repeat("not(", most/4), impl.PolicyOut{At: most / 2, Code: impl.ErrSyntax}},
		"has":                      {strings.Repeat("has ", most/4), impl.PolicyOut{At: 2, Code: impl.ErrSyntax}},
		"and":                      {strings.Repeat("and ", most/4), impl.PolicyOut{At: 1, Code: impl.ErrSyntax}},
		"one word":                 {strings.Repeat("a", most), impl.PolicyOut{Code: impl.ErrSyntax}},
		"one word of no names":     {strings.Repeat("=", most), impl.PolicyOut{Code: impl.ErrSyntax}},
		"one letter words":         {strings.Repeat("a ", most/2), impl.PolicyOut{At: 1, Code: impl.ErrSyntax}},
		"mixed bytes":              {mixed(most), impl.PolicyOut{Code: impl.ErrSyntax}},
		"turned too often":         {longText(most, "", "not ", "has a"), impl.PolicyOut{Code: impl.ErrForm}},
		"a chain of and":           {longText(most, "", "has a and ", "a = b"), impl.PolicyOut{Code: impl.ErrForm}},
		"a chain of or":            {longText(most, "", "a = b or ", "has a"), impl.PolicyOut{Code: impl.ErrForm}},
		"many brackets, one truth": {strings.Repeat("(", deep) + "has a" + strings.Repeat(")", deep), impl.PolicyOut{Policy: []impl.Ins{has("a")}}},
		"a bracket too few":        {strings.Repeat("(", deep+1) + "has a" + strings.Repeat(")", deep-1), impl.PolicyOut{At: int64(2*deep + 2), Code: impl.ErrSyntax}},
		"a bracket too many":       {strings.Repeat("(", deep-1) + "has a" + strings.Repeat(")", deep+1), impl.PolicyOut{At: int64(2 * deep), Code: impl.ErrSyntax}},
		"many blanks":              {"has" + strings.Repeat(" ", most-4) + "a", impl.PolicyOut{Policy: []impl.Ins{has("a")}}},
		"the last word is wrong":   {longText(most, "", "has a and ", "="), impl.PolicyOut{At: int64((most - 1) / 10 * 3), Code: impl.ErrSyntax}},
	} {
		if len(c.text) > most {
			t.Fatalf("%s: %d bytes", what, len(c.text))
		}
		wantPolicyRead(t, c.text, c.want)
		longer := c.text + strings.Repeat(" ", most-len(c.text))
		wantPolicyRead(t, longer, c.want)
		for _, tooLong := range []string{longer + " ", " " + longer, longer + ")", longer + strings.Repeat("x", most)} {
			wantPolicyRead(t, tooLong, impl.PolicyOut{Code: impl.ErrSize})
		}
	}
	// 1000 times four words, 2000 times two, two, and 1994 brackets: 1006 are still open.
	wantNoPolicy(t, strings.Repeat("(has a or ", 1000)+strings.Repeat("not(", 2000)+"has b"+strings.Repeat(")", 1994), 4000+4000+2+1994)
	wantPolicyRead(t, longText(most, "( has a and ", "( has b or has c ) or ", "has d )"), impl.PolicyOut{Code: impl.ErrForm})
}

// roomyPolicy has place behind its instructions.
func roomyPolicy(p []impl.Ins) []impl.Ins {
	return append(slices.Clone(p), op(77), op(78))[:len(p)]
}

func roomyLabels(l []impl.Label) []impl.Label {
	return append(slices.Clone(l), impl.Label{Key: "kept"}, impl.Label{Key: "kept"})[:len(l)]
}

func TestPoliciesChangeNothingThatIsHandedIn(t *testing.T) {
	next := mixedNumbers(14142)
	list := [][]impl.Ins{nil, {op(3)}, {has("a"), op(4)}, {has("a"), has("b")}, turnedOften(61), {is("A", "b")}}
	for range 40 {
		list = append(list, madePolicy(1+next(60), next))
	}
	for i, p := range list {
		mine, labels := roomyPolicy(p), roomyLabels(someLabelLists()[i%8])
		impl.PolicyRight(mine)
		impl.PolicyText(mine)
		impl.PolicyEval(mine, labels)
		size := len(p)
		if told(mine) != told(p) || told(mine[size:size+2]) != told([]impl.Ins{op(77), op(78)}) {
			t.Errorf("policy %d is changed: %s", i, told(mine))
		}
		if told(labels) != told(someLabelLists()[i%8]) || told(labels[:len(labels)+2][len(labels):]) != told(slices.Repeat([]impl.Label{{Key: "kept"}}, 2)) {
			t.Errorf("labels are changed: %s", told(labels))
		}
	}
}

func textsOfPolicy(p []impl.Ins) []string {
	var out []string
	for _, ins := range p {
		out = append(out, ins.Key, ins.Value)
	}
	return out
}

func TestPoliciesAreNewMemory(t *testing.T) {
	long := mixedName(40)
	for _, p := range [][]impl.Ins{{is(long, long)}, {has(long)}, {has(long), op(3)}, {is(long, "bb"), has(long), op(4), has("cc"), op(5), op(3)}} {
		text := impl.PolicyText(p)
		wantTextsApart(t, "PolicyText", []string{text}, textsOfPolicy(p))
		for _, text := range []string{text, "(" + text + ")", "  " + text + "  "} {
			a, b := impl.PolicyRead(text).Policy, impl.PolicyRead(text).Policy
			wantTextsApart(t, "PolicyRead", textsOfPolicy(a), []string{text})
			for i := range a[:cap(a)] {
				a[:cap(a)][i] = op(77)
			}
			if told(b) != told(p) {
				t.Error("two answers share their lists")
			}
		}
	}
}

func TestPoliciesAreTheSameEachTime(t *testing.T) {
	next := mixedNumbers(17320)
	p := madePolicy(60, next)
	text := plainPolicyText(p)
	for range 30 {
		wantRightPolicy(t, "again", p)
		wantWrongPolicy(t, "one turn more, between", append(slices.Clone(p), op(3)))
		wantWrongPolicy(t, "the first one lacks, between", p[1:])
		wantPolicyRead(t, text, impl.PolicyOut{Policy: p})
		wantNoPolicy(t, "has a and", 3)
		wantPolicyRead(t, "not not "+text, plainPolicyRead("not not "+text))
	}
}

func TestPoliciesAskedForAtTheSameTime(t *testing.T) {
	const callers = 40
	next := mixedNumbers(22360)
	p := madePolicy(59, next)
	text := plainPolicyText(p)
	var right, eval [callers]bool
	var texts [callers]string
	var read [callers]impl.PolicyOut
	var all sync.WaitGroup
	for i := range callers {
		all.Go(func() {
			right[i] = impl.PolicyRight(p[:59-i%2])
			eval[i] = impl.PolicyEval(p, someLabelLists()[i%8])
			texts[i] = impl.PolicyText(p[:59-i%3])
			read[i] = impl.PolicyRead(text[:len(text)-i])
		})
	}
	all.Wait()
	for i := range callers {
		if right[i] != plainPolicyRight(p[:59-i%2]) || eval[i] != plainPolicyEval(p, someLabelLists()[i%8]) || texts[i] != plainPolicyText(p[:59-i%3]) {
			t.Errorf("caller %d: a policy tells something else", i)
		}
		if told(read[i]) != told(plainPolicyRead(text[:len(text)-i])) {
			t.Errorf("caller %d: a text is read as something else", i)
		}
	}
}
