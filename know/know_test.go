package know_test

import (
	"math"
	"math/rand"
	"slices"
	"strings"
	"testing"

	"countersign/api"
	"countersign/know"
	"countersign/term"
)

func atom(s string) api.Term { return api.Term{Kind: api.Atom, S: s} }

func nonce(n int) api.Term { return api.Term{Kind: api.Nonce, N: n} }

func of(kind int, kids ...api.Term) api.Term { return api.Term{Kind: kind, Kids: kids} }

func list(l ...api.Term) []api.Term { return l }

// tower is t below so many nodes of a Kind; where the Kind has two Kids, the first is an Atom.
func tower(kind, n int, t api.Term) api.Term {
	for range n {
		if kind == api.Hash || kind == api.Pub {
			t = of(kind, t)
		} else {
			t = of(kind, atom("k"), t)
		}
	}
	return t
}

// tree is a full tree of Pairs, so deep, with Nonces from *next on at its ends: 2^deep - 1 nodes.
func tree(deep int, next *int) api.Term {
	if deep == 1 {
		*next++
		return nonce(*next - 1)
	}
	left := tree(deep-1, next)
	return of(api.Pair, left, tree(deep-1, next))
}

// alike says whether all of a and b is the same, of no terms, too.
func alike(a, b api.Term) bool {
	return a.Kind == b.Kind && a.N == b.N && a.S == b.S && slices.EqualFunc(a.Kids, b.Kids, alike)
}

func among(l []api.Term, t api.Term) bool {
	return slices.ContainsFunc(l, func(x api.Term) bool { return alike(x, t) })
}

// twin is the same term in other memory, with spare room behind its Kids.
func twin(t api.Term) api.Term {
	kids := make([]api.Term, 0, len(t.Kids)+2)
	for _, kid := range t.Kids {
		kids = append(kids, twin(kid))
	}
	t.Kids = kids
	return t
}

func twins(l []api.Term) []api.Term {
	var out []api.Term
	for _, t := range l {
		out = append(out, twin(t))
	}
	return out
}

func askOpen(t *testing.T, l, want []api.Term) {
	t.Helper()
	if got := know.Open(l); !slices.EqualFunc(got, want, alike) {
		t.Errorf("Open of %v: %v, not %v", l, got, want)
	}
}

func askCan(t *testing.T, want bool, l []api.Term, all ...api.Term) {
	t.Helper()
	for i, x := range all {
		if know.Can(l, x) != want {
			t.Errorf("Can of number %d, %v: %v, not %v", i, x, !want, want)
		}
	}
}

// P301, P302: the chapter's examples.
func TestExamples(t *testing.T) {
	for _, two := range [][]api.Term{{atom("a"), atom("b")}, {atom("a"), nonce(0)}, {nonce(1), nonce(2)}} {
		pair := of(api.Pair, two[0], two[1])
		askOpen(t, list(pair), list(two[0], two[1], pair))
	}
	askCan(t, false, nil, nonce(1))
	askCan(t, false, list(), nonce(1))
}

// P301: what comes out of each Kind, and what does not.
func TestOpenKinds(t *testing.T) {
	askOpen(t, nil, nil)
	askOpen(t, list(), nil)
	pair := of(api.Pair, nonce(2), nonce(1))
	for _, shut := range []api.Term{
		atom(""), atom("a"), nonce(0), nonce(api.MaxNonce),
		of(api.Hash, nonce(1)), of(api.Hash, pair), of(api.Pub, nonce(1)), of(api.Pub, pair),
		of(api.Mac, nonce(1), nonce(2)), of(api.Mac, pair, pair), of(api.Mac, atom("k"), of(api.Sig, nonce(1), nonce(2))),
		of(api.Hash, of(api.Sig, nonce(1), nonce(2))), tower(api.Hash, 15, nonce(1)),
	} {
		askOpen(t, list(shut), list(shut))
	}
	askOpen(t, list(pair), list(nonce(1), nonce(2), pair))
	sig := of(api.Sig, nonce(1), nonce(2))
	askOpen(t, list(sig), list(nonce(2), sig))
	keyed := of(api.Sig, pair, atom("said"))
	askOpen(t, list(keyed), list(atom("said"), keyed))
	half := of(api.Pair, of(api.Hash, nonce(1)), of(api.Mac, nonce(3), nonce(4)))
	askOpen(t, list(half), list(of(api.Hash, nonce(1)), of(api.Mac, nonce(3), nonce(4)), half))
}

// P301: again and again, down to the greatest depth and size, through Pairs on either side and through Sigs.
func TestOpenAgain(t *testing.T) {
	for _, kind := range []int{api.Pair, api.Sig} {
		deep := tower(kind, 15, nonce(7))
		want := list(nonce(7))
		if kind == api.Pair {
			want = list(atom("k"), nonce(7))
		}
		for part := deep; part.Kind == kind; part = part.Kids[1] {
			want = append(want, part)
		}
		askOpen(t, list(deep), term.Sort(want))
		askCan(t, true, list(deep), nonce(7))
	}
	left := nonce(7)
	for range 15 {
		left = of(api.Pair, left, nonce(8))
	}
	if got := know.Open(list(left)); len(got) != 17 || !among(got, nonce(7)) || !among(got, nonce(8)) {
		t.Errorf("Open of what is deep on the left: %d", len(got))
	}
	next := 0
	wide := of(api.Sig, nonce(99), of(api.Pair, tree(5, &next), tree(4, &next))) // 49 nodes
	if got := know.Open(list(wide)); len(got) != 48 || among(got, nonce(99)) {
		t.Errorf("Open of what is wide: %d", len(got))
	}
	next = 0
	full := tree(6, &next)
	if got := know.Open(list(full, full)); len(got) != 63 {
		t.Errorf("Open of a full tree: %d", len(got))
	}
	mixed := of(api.Pair, of(api.Sig, nonce(1), of(api.Pair, nonce(2), of(api.Sig, nonce(3), nonce(4)))), of(api.Hash, of(api.Pair, nonce(5), nonce(6))))
	askOpen(t, list(mixed), list(nonce(2), nonce(4), of(api.Hash, of(api.Pair, nonce(5), nonce(6))), of(api.Sig, nonce(1), mixed.Kids[0].Kids[1]), of(api.Sig, nonce(3), nonce(4)), mixed.Kids[0].Kids[1], mixed))
}

// P301: term.Sort of all: rising, and each once, whichever way it comes and however often.
func TestOpenInOrder(t *testing.T) {
	a, b, c := nonce(1), atom("b"), of(api.Hash, nonce(9))
	ab, ba := of(api.Pair, a, b), of(api.Pair, b, a)
	all := of(api.Pair, ab, of(api.Pair, ba, of(api.Sig, c, ab)))
	want := list(b, a, of(api.Sig, c, ab), ba, ab, of(api.Pair, ba, of(api.Sig, c, ab)), all)
	askOpen(t, list(all), want)
	askOpen(t, list(all, all, a, a, b, ab, ba, twin(all)), want)
	askOpen(t, list(b, ba, a, twin(ab), all), want)
	askOpen(t, list(c, all), list(b, a, c, of(api.Sig, c, ab), ba, ab, of(api.Pair, ba, of(api.Sig, c, ab)), all))
	askOpen(t, list(nonce(10), nonce(9), atom("z"), nonce(9), atom("")), list(atom(""), atom("z"), nonce(9), nonce(10)))
}

// P302: who knows nothing makes all Atoms, what is built of them, and nothing else.
func TestCanOfNothing(t *testing.T) {
	long := atom(strings.Repeat("\xff", api.MaxAtom))
	askCan(t, true, nil, atom(""), atom("\x00"), long,
		of(api.Hash, atom("a")), of(api.Pub, atom("")), of(api.Mac, atom("k"), long), of(api.Sig, atom("k"), atom("m")), of(api.Pair, atom(""), atom("")),
		tower(api.Hash, 15, atom("")), tower(api.Pub, 15, atom("")), tower(api.Mac, 15, atom("")), tower(api.Sig, 15, atom("")), tower(api.Pair, 15, atom("")))
	askCan(t, false, nil, nonce(0), nonce(1), nonce(api.MaxNonce))
	for _, kind := range []int{api.Hash, api.Pub, api.Mac, api.Sig, api.Pair} {
		for n := 1; n <= 15; n++ {
			askCan(t, false, nil, tower(kind, n, nonce(0)))
			askCan(t, true, list(nonce(0)), tower(kind, n, nonce(0)))
		}
		askCan(t, kind == api.Sig || kind == api.Pair, list(tower(kind, 15, nonce(0))), nonce(0))
	}
}

// P302: what has two Kids needs both, unless it is open as a whole.
func TestCanNeedsEachKid(t *testing.T) {
	for _, kind := range []int{api.Mac, api.Sig, api.Pair} {
		whole := of(kind, nonce(1), nonce(2))
		askCan(t, false, nil, whole)
		askCan(t, false, list(nonce(1)), whole)
		askCan(t, false, list(nonce(2)), whole)
		askCan(t, true, list(nonce(1), nonce(2)), whole, of(kind, nonce(2), nonce(1)))
		askCan(t, true, list(whole), whole, of(api.Hash, whole), of(api.Mac, whole, atom("m")))
		askCan(t, kind == api.Pair, list(whole), nonce(1), of(kind, nonce(2), nonce(1)), of(kind, nonce(1), atom("")))
		askCan(t, kind != api.Mac, list(whole), nonce(2), of(kind, atom(""), nonce(2)))
		askCan(t, false, list(of(api.Hash, whole)), whole, nonce(1), nonce(2))
	}
	for _, kind := range []int{api.Hash, api.Pub} {
		whole := of(kind, nonce(1))
		askCan(t, true, list(whole), whole, of(api.Pair, whole, whole), of(kind, whole))
		askCan(t, true, list(nonce(1)), whole)
		askCan(t, false, list(whole), nonce(1), of(kind, nonce(2)), of(api.Hash+api.Pub-kind, nonce(1)), of(api.Mac, nonce(1), atom("")))
	}
}

// P302: a key signs and makes macs; who has its Pub, its Hash, its Sig or its Mac does not.
func TestCanByKey(t *testing.T) {
	key, said := nonce(5), of(api.Pair, atom("user"), nonce(6))
	held := list(of(api.Pub, key), of(api.Hash, key), of(api.Sig, key, said), of(api.Mac, key, said))
	askCan(t, true, held, nonce(6), said, of(api.Sig, key, said), of(api.Mac, key, said), of(api.Pair, of(api.Pub, key), of(api.Sig, key, said)), of(api.Sig, nonce(6), atom("other")), of(api.Hash, nonce(6)))
	askCan(t, false, held, key, of(api.Sig, key, nonce(6)), of(api.Mac, key, nonce(6)), of(api.Sig, key, atom("")), of(api.Pub, of(api.Pair, key, key)), of(api.Pair, nonce(6), key))
	askCan(t, true, append(held, of(api.Sig, nonce(9), key)), key, of(api.Sig, key, nonce(6)), of(api.Mac, key, atom("other")))
}

// P301, P302: terms that are near to each other are not taken for one.
func TestNearTerms(t *testing.T) {
	near := list(
		atom("a"), atom("aa"), atom(""), atom("1"), atom("2"), atom("\x01"), atom("\xc3\x28"), atom("\uFFFD\x28"), nonce(0), nonce(1), nonce(2), nonce(11), nonce(12), nonce(21), nonce(256),
		of(api.Hash, nonce(1)), of(api.Pub, nonce(1)), of(api.Hash, nonce(2)), of(api.Hash, atom("1")), of(api.Hash, of(api.Hash, nonce(1))), of(api.Hash, atom("\xff")), of(api.Hash, atom("\xfe")),
	)
	for _, kids := range [][]api.Term{
		{nonce(1), nonce(2)}, {nonce(2), nonce(1)}, {nonce(1), nonce(1)}, {nonce(1), nonce(12)}, {nonce(11), nonce(2)}, {nonce(12), nonce(1)}, {nonce(1), nonce(21)}, {nonce(1), atom("2")}, {atom("1"), nonce(2)},
		{atom("a"), atom("bc")}, {atom("ab"), atom("c")}, {atom("abc"), atom("")}, {atom(""), atom("abc")}, {atom("a "), atom("bc")}, {atom("a"), atom(" bc")},
		{atom("a1 1 b"), atom("c")}, {atom("a"), atom("b1 1 c")}, {atom("a1 b"), atom("c")}, {atom("a"), atom("b1 c")}, {atom("a1b"), atom("c")}, {atom("a"), atom("b1c")}, {atom("0"), atom("xxxxxxx13abc")}, {atom("112xxxxxxx"), atom("abc")}, {atom("a,1,1,b"), atom("c")}, {atom("a\x01\x00\x01b"), atom("c")}, {atom("a"), atom("b\x01\x00\x01c")},
		{of(api.Pair, nonce(1), nonce(2)), nonce(3)}, {nonce(1), of(api.Pair, nonce(2), nonce(3))}, {of(api.Hash, nonce(1)), nonce(2)}, {nonce(1), of(api.Hash, nonce(2))},
	} {
		near = append(near, of(api.Mac, kids...))
	}
	for i, x := range near {
		if got := know.Open(append(list(x), near...)); !slices.EqualFunc(got, term.Sort(near), alike) || len(got) != len(near) {
			t.Errorf("Open of all that are near, and number %d: %d of %d", i, len(got), len(near))
		}
		for k, y := range near {
			mac := of(api.Mac, nonce(1000), y)
			if know.Can(list(of(api.Mac, nonce(1000), x)), mac) != (i == k) {
				t.Errorf("Can of number %d by number %d", k, i)
			}
		}
	}
	for i, kind := range []int{api.Mac, api.Sig, api.Pair} {
		for k, other := range []int{api.Mac, api.Sig, api.Pair} {
			shut := list(of(api.Hash, of(kind, nonce(1), nonce(2))))
			if know.Can(shut, of(api.Hash, of(other, nonce(1), nonce(2)))) != (i == k) {
				t.Errorf("Can of Kind %d by Kind %d", other, kind)
			}
		}
	}
}

// parts lists t, and all that stands within it.
func parts(t api.Term) []api.Term {
	l := list(t)
	for _, kid := range t.Kids {
		l = append(l, parts(kid)...)
	}
	return l
}

// reckonOpen opens in another way: over all parts, one is added as long as one is found that stands in what is open.
func reckonOpen(l []api.Term) []api.Term {
	open := slices.Clone(l)
	for again := true; again; {
		again = false
		for _, t := range slices.Clone(open) {
			for i, kid := range t.Kids {
				if (t.Kind == api.Pair || t.Kind == api.Sig && i == 1) && !among(open, kid) {
					open, again = append(open, kid), true
				}
			}
		}
	}
	return open
}

// reckonCan makes in another way: from below, each part of t that can be made is added to what is known, and what is known
// is opened again behind each.
func reckonCan(l []api.Term, t api.Term) bool {
	have := reckonOpen(l)
	for again := true; again; {
		again = false
		for _, part := range parts(t) {
			made := len(part.Kids) > 0 || part.Kind == api.Atom
			for _, kid := range part.Kids {
				made = made && among(have, kid)
			}
			if made && !among(have, part) {
				have, again = reckonOpen(append(have, part)), true
			}
		}
	}
	return among(have, t)
}

// drawTerm draws a term of few different Nonces and Atoms, at most so deep.
func drawTerm(draw *rand.Rand, deep int) api.Term {
	kind := 1 + draw.Intn(9)
	switch {
	case kind == api.Atom:
		return atom([]string{"", "a", "b"}[draw.Intn(3)])
	case kind == api.Hash || kind == api.Pub:
		if deep > 1 {
			return of(kind, drawTerm(draw, deep-1))
		}
	case kind >= api.Mac && deep > 1:
		return of(min(kind, api.Pair), drawTerm(draw, deep-1), drawTerm(draw, deep-1))
	}
	return nonce(draw.Intn(6))
}

func drawList(draw *rand.Rand, most, deep int) []api.Term {
	var l []api.Term
	for range draw.Intn(most + 1) {
		l = append(l, drawTerm(draw, deep))
	}
	return l
}

// P301, P302: what was drawn, as reckoned in another way.
func TestDrawn(t *testing.T) {
	draw := rand.New(rand.NewSource(3))
	met := map[bool]int{}
	for range 6000 {
		l := drawList(draw, 5, 5)
		open := reckonOpen(l)
		askOpen(t, l, term.Sort(open))
		for range 4 {
			x := drawTerm(draw, 4)
			want := reckonCan(l, x)
			askCan(t, want, twins(l), twin(x))
			if x.Kind != api.Atom && !among(open, x) {
				met[want]++
			}
		}
	}
	if met[true] < 1000 || met[false] < 1000 {
		t.Errorf("Can was %d times yes and %d times no of what is neither open nor an Atom", met[true], met[false])
	}
}

// P303: who knows more can more: all that is open stays open, and all that can be made can be made still.
func TestMoreCanMore(t *testing.T) {
	draw := rand.New(rand.NewSource(4))
	gained := 0
	for range 3000 {
		l, more := drawList(draw, 4, 4), drawList(draw, 3, 4)
		both := append(twins(more), l...)
		all := know.Open(both)
		for _, x := range know.Open(l) {
			if !among(all, x) {
				t.Errorf("Open of more lacks %v", x)
			}
		}
		for range 4 {
			x := drawTerm(draw, 4)
			less, can := know.Can(l, x), know.Can(both, x)
			if less && !can {
				t.Errorf("who knows more can't make %v", x)
			}
			if can && !less {
				gained++
			}
		}
	}
	if gained < 100 {
		t.Errorf("more was gained %d times", gained)
	}
}

// P303: what one can make adds nothing, and what stands open adds nothing either.
func TestMadeAddsNothing(t *testing.T) {
	draw := rand.New(rand.NewSource(5))
	held := 0
	for range 6000 {
		l, made := drawList(draw, 4, 4), drawTerm(draw, 4)
		open := know.Open(l)
		askOpen(t, open, open)
		for _, x := range open {
			askCan(t, true, l, x)
		}
		if !know.Can(l, made) {
			continue
		}
		held++
		for range 4 {
			x := drawTerm(draw, 4)
			askCan(t, know.Can(l, x), append(list(made), l...), x)
			askCan(t, know.Can(l, x), open, x)
		}
		for _, x := range know.Open(append(list(made), l...)) {
			askCan(t, true, l, x)
		}
	}
	if held < 1000 {
		t.Errorf("Can was yes %d times", held)
	}
}

// spoil overwrites all lists of an answer, their spare room too.
func spoil(l []api.Term) {
	l = l[:cap(l)]
	for i := range l {
		spoil(l[i].Kids)
		l[i] = atom("spoilt")
	}
}

// P2: what is handed in, its spare room too, is not changed, and is not kept.
func TestHandedInStays(t *testing.T) {
	first := of(api.Pair, nonce(2), of(api.Sig, nonce(1), of(api.Pair, nonce(3), atom("a"))))
	room := append(make([]api.Term, 0, 8), twin(first), nonce(9), nonce(9), atom("z"))
	whole := room[:cap(room)]
	for i := len(room); i < len(whole); i++ {
		whole[i] = nonce(1000 - i)
	}
	x := twin(of(api.Mac, nonce(3), of(api.Pair, nonce(2), atom("z"))))
	var lists [][]api.Term
	var note func(l []api.Term)
	note = func(l []api.Term) {
		l = l[:cap(l)]
		lists = append(lists, l)
		for _, t := range l {
			note(t.Kids)
		}
	}
	note(whole)
	note(x.Kids)
	var before [][]api.Term
	for _, l := range lists {
		before = append(before, twins(l))
	}
	answer := know.Open(room)
	spoil(know.Open(room))
	askCan(t, true, room, x)
	for i, l := range lists {
		if !slices.EqualFunc(l, before[i], alike) {
			t.Errorf("list %d of what was handed in was changed", i)
		}
	}
	want := twins(answer)
	spoil(room)
	if !slices.EqualFunc(answer, want, alike) {
		t.Error("an answer changed with what was handed in")
	}
}

// P2: no two lists of one answer, nor of two, share memory, spare room too: though each Kid of a Pair stands in the answer twice.
func TestAnswersAreNew(t *testing.T) {
	shared := of(api.Pair, nonce(1), of(api.Mac, nonce(2), nonce(3)))
	in := list(of(api.Sig, shared, shared), of(api.Pair, shared, shared), shared)
	owner := map[*api.Term]bool{}
	var own func(l []api.Term)
	own = func(l []api.Term) {
		l = l[:cap(l)]
		for i := range l {
			if owner[&l[i]] {
				t.Error("two lists share memory")
			}
			owner[&l[i]] = true
			own(l[i].Kids)
		}
	}
	own(know.Open(in))
	own(know.Open(in))
	for _, part := range []*api.Term{&in[0], &shared.Kids[0], &shared.Kids[1].Kids[0]} {
		if owner[part] {
			t.Error("an answer shares memory with what was handed in")
		}
	}
	if len(owner) < 2*15 {
		t.Errorf("%d places", len(owner))
	}
}

// P2: no list and an empty one are the same.
func TestNoKidsAndEmptyKids(t *testing.T) {
	a, b := nonce(1), api.Term{Kind: api.Nonce, N: 1, Kids: []api.Term{}}
	askOpen(t, list(a, b), list(a))
	askCan(t, true, list(a), b, of(api.Hash, b))
	askCan(t, true, list(b), a, of(api.Hash, a))
	askCan(t, true, list(of(api.Hash, b)), of(api.Hash, a))
}

// P3
func TestSameAnswers(t *testing.T) {
	draw := rand.New(rand.NewSource(6))
	for range 50 {
		l, x := drawList(draw, 20, 6), drawTerm(draw, 4)
		open, can := know.Open(l), know.Can(l, x)
		for range 5 {
			know.Open(list(nonce(77), of(api.Pair, nonce(0), nonce(1))))
			askOpen(t, l, open)
			askCan(t, can, l, x)
		}
		slices.Reverse(l)
		askOpen(t, l, open)
		askCan(t, can, l, x)
	}
	askCan(t, false, nil, nonce(77), nonce(0))
}

// P1: of what is no term, too, each call ends, and none panics; the calls behind it answer as ever.
func TestNoTermsEnd(t *testing.T) {
	within := []api.Term{{Kind: api.Pair}, {Kind: api.Pair}}
	within[0].Kids, within[1].Kids = within, within
	folded := nonce(1)
	for range 1 << 10 {
		folded = of(api.Pair, folded, folded)
	}
	crowd := make([]api.Term, 1<<16)
	next := 0
	bad := list(api.Term{}, within[0], of(api.Sig, within...), folded, tower(api.Pair, 16, nonce(1)), tower(api.Sig, 1<<16, nonce(1)), tree(7, &next), of(api.Pair, crowd...), of(api.Pair, nonce(1)), of(api.Pair), of(api.Sig), of(api.Sig, nonce(1)), of(api.Hash), of(api.Mac, nonce(1)), of(api.Atom, within...), of(api.Pair, nonce(1), api.Term{}), of(api.Pair, of(api.Sig), nonce(1)), nonce(-1), nonce(math.MaxInt), atom(strings.Repeat("x", 1025)), api.Term{Kind: 8}, api.Term{Kind: math.MinInt, N: math.MaxInt, S: "s", Kids: within})
	for _, x := range bad {
		know.Open(list(x))
		know.Can(list(x), nonce(1))
		know.Can(nil, x)
		for _, y := range bad {
			know.Can(list(x, nonce(1), y), y)
		}
	}
	know.Open(bad)
	know.Open(crowd)
	know.Can(bad, nonce(2))
	askOpen(t, list(nonce(1)), list(nonce(1)))
	askCan(t, false, list(nonce(1)), nonce(2))
}

// P1: long lists, of the greatest terms.
func TestLong(t *testing.T) {
	var l []api.Term
	next := 0
	for range 2000 {
		l = append(l, tree(6, &next))
	}
	if got := know.Open(l); len(got) != 2000*63 {
		t.Errorf("Open of a long list: %d", len(got))
	}
	askCan(t, true, l, nonce(0), nonce(next-1), of(api.Sig, nonce(1), nonce(next-2)))
	askCan(t, false, l, nonce(next))
}
