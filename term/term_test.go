package term_test

import (
	"cmp"
	"math"
	"slices"
	"strings"
	"testing"

	"countersign/api"
	"countersign/term"
)

func atom(s string) api.Term { return api.Term{Kind: api.Atom, S: s} }

func nonce(n int) api.Term { return api.Term{Kind: api.Nonce, N: n} }

func of(kind int, kids ...api.Term) api.Term { return api.Term{Kind: kind, Kids: kids} }

// tower is t below so many Hashes.
func tower(n int, t api.Term) api.Term {
	for range n {
		t = of(api.Hash, t)
	}
	return t
}

// chain is so many Pairs, each the second Kid of the one above: 2n+1 nodes, n+1 deep.
func chain(n int) api.Term {
	t := atom("end")
	for range n {
		t = of(api.Pair, atom("x"), t)
	}
	return t
}

// tree is a full tree of Pairs, so deep: 2^deep - 1 nodes.
func tree(deep int) api.Term {
	if deep == 1 {
		return atom("x")
	}
	return of(api.Pair, tree(deep-1), tree(deep-1))
}

// family is a list of terms, no two the same: each Kind, and each place in which two terms may differ.
func family() []api.Term {
	all := []api.Term{
		atom(""), atom("\x00"), atom("a"), atom("a\x00"), atom("aa"), atom("b"), atom("\x7f"), atom("\x80"), atom("\xff"), atom("é"),
		nonce(0), nonce(1), nonce(9), nonce(10), nonce(255), nonce(256), nonce(api.MaxNonce),
		tower(2, atom("")), tower(3, nonce(0)), of(api.Pub, tower(1, nonce(0))),
	}
	kids := []api.Term{atom(""), atom("b"), nonce(0), nonce(7), of(api.Pub, nonce(7)), of(api.Pair, nonce(0), nonce(7)), of(api.Pair, nonce(7), nonce(0))}
	for _, x := range kids {
		all = append(all, of(api.Hash, x), of(api.Pub, of(api.Pub, x)))
		for _, y := range kids {
			all = append(all, of(api.Mac, x, y), of(api.Sig, x, y), of(api.Pair, x, of(api.Hash, y)))
		}
	}
	return all
}

// flat lists the nodes of a term, a node ahead of its Kids, each without its Kids.
func flat(t api.Term) []api.Term {
	l := []api.Term{{Kind: t.Kind, N: t.N, S: t.S}}
	for _, kid := range t.Kids {
		l = append(l, flat(kid)...)
	}
	return l
}

// order reckons Less and Same in another way: node by node over flat lists.
func order(a, b api.Term) int {
	return slices.CompareFunc(flat(a), flat(b), func(x, y api.Term) int {
		if x.Kind != y.Kind {
			return cmp.Compare(x.Kind, y.Kind)
		}
		if x.N != y.N {
			return cmp.Compare(x.N, y.N)
		}
		return slices.Compare([]byte(x.S), []byte(y.S))
	})
}

// twin is the same term in other memory.
func twin(t api.Term) api.Term {
	kids := make([]api.Term, 0, len(t.Kids)+2)
	for _, kid := range t.Kids {
		kids = append(kids, twin(kid))
	}
	t.Kids = kids
	return t
}

func askMay(t *testing.T, want bool, l ...api.Term) {
	t.Helper()
	for i, x := range l {
		if term.May(x) != want {
			t.Errorf("May of number %d (Kind %d): %v, not %v", i, x.Kind, !want, want)
		}
	}
}

// P101: every Kind, with every number of Kids, and what else it may have.
func TestMayKinds(t *testing.T) {
	kids := map[int]int{1: 0, 2: 0, 3: 1, 4: 1, 5: 2, 6: 2, 7: 2}
	for kind := -2; kind <= 10; kind++ {
		for count := range 4 {
			for _, n := range []int{-1, 0, 1} {
				for _, s := range []string{"", "s"} {
					x := api.Term{Kind: kind, N: n, S: s, Kids: slices.Repeat([]api.Term{atom("k")}, count)}
					want, known := kids[kind]
					good := known && count == want
					good = good && (n == 0 || n == 1 && kind == api.Nonce)
					good = good && (s == "" || kind == api.Atom)
					if term.May(x) != good || term.May(of(api.Pair, nonce(1), x)) != good {
						t.Errorf("May of Kind %d, N %d, S %q, %d Kids: not %v", kind, n, s, count, good)
					}
				}
			}
		}
	}
}

// P101: an Atom has any bytes, up to MaxAtom; a Nonce a number from 0 to MaxNonce; Kinds far off are none.
func TestMayNumbers(t *testing.T) {
	askMay(t, true,
		atom(""), atom("\x00\xff\xc3"), atom(strings.Repeat("\xff", 1023)), atom(strings.Repeat("\xff", 1024)),
		nonce(0), nonce(1<<30-1), nonce(1<<30), api.Term{Kind: api.Atom, Kids: []api.Term{}})
	askMay(t, false,
		atom(strings.Repeat("x", 1025)), atom(strings.Repeat("x", 1<<20)), atom(strings.Repeat("é", 513)),
		nonce(-1), nonce(1<<30+1), nonce(math.MaxInt), nonce(math.MinInt), nonce(1<<32),
		api.Term{}, api.Term{Kind: math.MaxInt}, api.Term{Kind: math.MinInt}, api.Term{Kind: 1<<32 + 1})
}

// P101: at most 64 nodes, at most 16 deep; each bound by itself.
func TestMayBounds(t *testing.T) {
	wide := of(api.Mac, tree(5), of(api.Sig, tree(4), tree(4))) // 1 + 31 + 31
	askMay(t, true,
		tree(6), of(api.Pub, tree(6)), of(api.Hash, wide), tower(15, nonce(1)), tower(15, atom("")), chain(15),
		of(api.Pair, tower(14, nonce(1)), tower(14, nonce(1))))
	askMay(t, false,
		tree(7), of(api.Pair, tree(6), atom("")), tower(2, tree(6)), tower(2, wide), tower(16, nonce(1)), chain(16), chain(32),
		of(api.Pair, tower(15, nonce(1)), nonce(1)), of(api.Pair, nonce(1), tower(15, nonce(1))))
}

// P101: a fault is found wherever it stands.
func TestMayFaultBelow(t *testing.T) {
	faults := []api.Term{{}, {Kind: 8}, nonce(-1), atom(strings.Repeat("x", 1025)), of(api.Hash), of(api.Pair, nonce(1)), of(api.Nonce, nonce(1))}
	for _, x := range faults {
		askMay(t, false, x, of(api.Hash, x), of(api.Pub, x), of(api.Mac, x, nonce(1)), of(api.Mac, nonce(1), x), of(api.Sig, x, nonce(1)), of(api.Sig, nonce(1), x), of(api.Pair, nonce(1), x), tower(14, x), of(api.Pair, tree(5), of(api.Pair, tree(4), of(api.Pair, nonce(1), x))))
	}
}

// P101: of up to 2^16 nodes, in whichever shape.
func TestMayGreat(t *testing.T) {
	askMay(t, false, tower(1<<16-1, nonce(1)), chain(1<<15-1), tree(16), of(api.Pair, slices.Repeat([]api.Term{nonce(1)}, 1<<16-1)...), of(api.Atom, slices.Repeat([]api.Term{{}}, 1<<16-1)...))
}

// P102
func TestSize(t *testing.T) {
	for _, x := range family() {
		if got, want := term.Size(x), len(flat(x)); got != want {
			t.Errorf("Size: %d, not %d", got, want)
		}
	}
	if term.Size(atom("")) != 1 || term.Size(of(api.Mac, nonce(1), nonce(1))) != 3 || term.Size(chain(15)) != 31 || term.Size(of(api.Hash, tree(6))) != 64 {
		t.Error("Size of an Atom, a Mac, a chain, the greatest")
	}
}

// P102: the chapter's second example, and each step of the order ahead of those that come behind it.
func TestLessSteps(t *testing.T) {
	steps := [][2]api.Term{
		{atom("b"), nonce(0)},
		{atom("z"), nonce(0)},
		{nonce(api.MaxNonce), of(api.Hash, atom(""))},
		{of(api.Hash, of(api.Pair, nonce(9), nonce(9))), of(api.Pub, atom(""))},
		{of(api.Pub, nonce(9)), of(api.Mac, atom(""), atom(""))},
		{of(api.Mac, nonce(9), nonce(9)), of(api.Sig, atom(""), atom(""))},
		{of(api.Sig, nonce(9), nonce(9)), of(api.Pair, atom(""), atom(""))},
		{nonce(9), nonce(10)},
		{nonce(255), nonce(256)},
		{atom(""), atom("\x00")},
		{atom("a"), atom("aa")},
		{atom("ab"), atom("b")},
		{atom("Z"), atom("a")},
		{atom("\x7f"), atom("\x80")},
		{atom("\xef\xbf\xbf"), atom("\xf0\x90\x80\x80")},
		{of(api.Pair, nonce(1), nonce(9)), of(api.Pair, nonce(2), nonce(0))},
		{of(api.Pair, nonce(1), nonce(2)), of(api.Pair, nonce(1), nonce(3))},
		{of(api.Pair, tower(9, nonce(1)), nonce(9)), of(api.Pair, tower(9, nonce(2)), nonce(0))},
		{of(api.Mac, atom("key"), atom("a")), of(api.Mac, atom("key"), atom("b"))},
	}
	for i, s := range steps {
		if !term.Less(s[0], s[1]) || term.Less(s[1], s[0]) || term.Same(s[0], s[1]) {
			t.Errorf("step %d", i)
		}
	}
}

// P102, P103: of every two terms just one is Less, or they are the Same; as reckoned in another way.
func TestOrderOfAll(t *testing.T) {
	l := family()
	for i, a := range l {
		for k, b := range l {
			b = twin(b)
			less, more, same := term.Less(a, b), term.Less(b, a), term.Same(a, b)
			want := order(a, b)
			if less != (want < 0) || more != (want > 0) || same != (want == 0) {
				t.Errorf("%d and %d: Less %v, turned %v, Same %v; reckoned %d", i, k, less, more, same, want)
			}
			if same != (i == k) || same != term.Same(b, a) {
				t.Errorf("%d and %d: Same %v", i, k, same)
			}
		}
	}
}

// P103: the order has no circles: once sorted, each one is Less than all behind it.
func TestOrderIsALine(t *testing.T) {
	l := term.Sort(family())
	for i, a := range l {
		for k, b := range l {
			if term.Less(a, b) != (i < k) {
				t.Errorf("%d and %d of what is sorted", i, k)
			}
		}
	}
}

// P102: just the nodes of a term, with all below each, are what it has.
func TestHas(t *testing.T) {
	l := family()
	var has func(t, x api.Term) bool
	has = func(t, x api.Term) bool {
		return order(t, x) == 0 || slices.ContainsFunc(t.Kids, func(kid api.Term) bool { return has(kid, x) })
	}
	for i, x := range l {
		for k, y := range l {
			if got, want := term.Has(x, twin(y)), has(x, y); got != want {
				t.Errorf("Has of %d and %d: %v", i, k, got)
			}
		}
	}
	deep := of(api.Sig, nonce(1), tower(13, of(api.Pair, atom("in"), nonce(5))))
	for i, y := range []api.Term{deep, nonce(1), nonce(5), atom("in"), of(api.Pair, atom("in"), nonce(5)), tower(13, of(api.Pair, atom("in"), nonce(5)))} {
		if !term.Has(deep, y) {
			t.Errorf("Has, deep, %d", i)
		}
	}
	for i, y := range []api.Term{atom("i"), atom(""), nonce(0), of(api.Pair, nonce(5), atom("in")), of(api.Sig, nonce(1), nonce(5)), tower(1, nonce(5))} {
		if term.Has(deep, y) {
			t.Errorf("Has not, deep, %d", i)
		}
	}
}

// P102
func TestNonces(t *testing.T) {
	cases := []struct {
		x    api.Term
		want []int
	}{
		{atom(""), nil},
		{atom("1"), nil},
		{of(api.Pair, atom("a"), tower(3, atom("b"))), nil},
		{nonce(0), []int{0}},
		{nonce(api.MaxNonce), []int{api.MaxNonce}},
		{of(api.Mac, nonce(3), nonce(3)), []int{3}},
		{of(api.Mac, nonce(api.MaxNonce), of(api.Sig, nonce(256), of(api.Pair, nonce(10), of(api.Pub, nonce(9))))), []int{9, 10, 256, api.MaxNonce}},
		{of(api.Pair, of(api.Pair, nonce(2), nonce(1)), of(api.Pair, nonce(2), of(api.Pair, nonce(0), nonce(1)))), []int{0, 1, 2}},
	}
	for i, c := range cases {
		if got := term.Nonces(c.x); !slices.Equal(got, c.want) {
			t.Errorf("Nonces of number %d: %v, not %v", i, got, c.want)
		}
	}
}

// P102: whatever the order and however often each comes, the same list is answered.
func TestSort(t *testing.T) {
	l := family()
	want := slices.SortedFunc(slices.Values(l), order)
	for step := 1; step < 12; step++ {
		var in []api.Term
		for from := range step {
			for i := from; i < len(l); i += step {
				in = append(in, l[i])
			}
		}
		slices.Reverse(in)
		in = append(in, twin(l[step]), twin(l[step]), l[0], l[len(l)-1])
		if got := term.Sort(in); !slices.EqualFunc(got, want, func(a, b api.Term) bool { return order(a, b) == 0 }) {
			t.Errorf("Sort, mixed by %d: %d items of %d", step, len(got), len(want))
		}
	}
	if len(term.Sort(nil)) != 0 || len(term.Sort([]api.Term{})) != 0 || len(term.Sort([]api.Term{nonce(1), nonce(1), nonce(1)})) != 1 {
		t.Error("Sort of nothing, of one thrice")
	}
}

// P2: no list and an empty one are the same.
func TestNoKidsAndEmptyKids(t *testing.T) {
	a, b := atom("a"), api.Term{Kind: api.Atom, S: "a", Kids: []api.Term{}}
	if !term.Same(a, b) || term.Less(a, b) || term.Less(b, a) || !term.Has(of(api.Hash, a), b) || !term.Has(of(api.Hash, b), a) || len(term.Sort([]api.Term{a, b})) != 1 {
		t.Error("no Kids and empty Kids differ")
	}
}

// spoil overwrites all lists of an answer, their spare room too.
func spoil(l []api.Term) {
	l = l[:cap(l)]
	for i := range l {
		spoil(l[i].Kids)
		l[i] = api.Term{Kind: api.Atom, S: "spoilt"}
	}
}

// P2: what is handed in, its spare room too, is not changed.
func TestHandedInStays(t *testing.T) {
	room := make([]api.Term, 0, 16)
	room = append(room, twin(of(api.Pair, nonce(2), of(api.Mac, nonce(1), atom("a")))), nonce(3), nonce(3), atom("z"))
	whole := room[:cap(room)]
	for i := len(room); i < len(whole); i++ {
		whole[i] = nonce(1000 - i)
	}
	kids := room[0].Kids[:cap(room[0].Kids)]
	kids[2], kids[3] = nonce(77), nonce(78)
	before := make([]api.Term, len(whole))
	for i := range whole {
		before[i] = twin(whole[i])
	}
	term.May(room[0])
	term.Size(room[0])
	term.Same(room[0], room[0])
	term.Less(room[0], room[1])
	term.Has(room[0], atom("a"))
	term.Nonces(room[0])
	spoil(term.Sort(room))
	if !slices.EqualFunc(whole, before, func(a, b api.Term) bool { return order(a, b) == 0 }) {
		t.Error("what was handed in was changed")
	}
	if kids[2].N != 77 || kids[3].N != 78 {
		t.Error("the spare room of what was handed in was changed")
	}
}

// P2: what is handed in is not kept, no two lists of an answer share memory, and two answers don't either.
func TestAnswersAreNew(t *testing.T) {
	shared := of(api.Pair, nonce(1), nonce(2))
	in := []api.Term{of(api.Hash, shared), of(api.Pub, shared), of(api.Mac, shared, shared), shared, {Kind: api.Atom, S: "a", Kids: make([]api.Term, 0, 4)}}
	want := term.Sort(in)
	for i := range want {
		out := term.Sort(in)
		spoil(out[i].Kids)
		for k := range out {
			if k != i && order(out[k], want[k]) != 0 {
				t.Errorf("items %d and %d of an answer share memory", i, k)
			}
		}
	}
	out := term.Sort([]api.Term{of(api.Mac, shared, shared)})
	spoil(out[0].Kids[0].Kids)
	if order(out[0].Kids[1], shared) != 0 || order(want[len(want)-1], shared) != 0 {
		t.Error("two Kids of one term, or two answers, share memory")
	}
	spoil(want[0].Kids)
	if in[4].Kids[:1][0].S == "spoilt" {
		t.Error("an answer shares spare room with what was handed in")
	}
	spoil(in[0].Kids)
	if order(want[1], of(api.Hash, of(api.Pair, nonce(1), nonce(2)))) != 0 {
		t.Error("an answer shares memory with what was handed in")
	}
	first := term.Nonces(of(api.Pair, nonce(1), nonce(2)))
	clear(first[:cap(first)])
	if !slices.Equal(term.Nonces(of(api.Pair, nonce(1), nonce(2))), []int{1, 2}) {
		t.Error("Nonces keeps what it answered")
	}
}

// P1: of what is no term, too, each call ends, and none panics.
func TestNoTermsEnd(t *testing.T) {
	within := []api.Term{{Kind: api.Pair}, {Kind: api.Pair}}
	within[0].Kids, within[1].Kids = within, within
	folded := atom("x")
	for range 1 << 10 {
		folded = of(api.Pair, folded, folded)
	}
	crowd := make([]api.Term, 1<<16)
	bad := []api.Term{{}, within[0], folded, tower(1<<16, nonce(1)), of(api.Pair, crowd...), of(api.Pair, nonce(1)), of(api.Pair), of(api.Atom, within...), nonce(-1), {Kind: math.MinInt, N: math.MaxInt, S: "s", Kids: within}}
	for i, x := range bad {
		if term.May(x) {
			t.Errorf("May of number %d", i)
		}
		term.Size(x)
		term.Nonces(x)
		term.Sort([]api.Term{x, nonce(1), x})
		for _, y := range append([]api.Term{nonce(1), of(api.Pair, nonce(1), nonce(2))}, bad...) {
			term.Same(x, y)
			term.Same(y, x)
			term.Less(x, y)
			term.Less(y, x)
			term.Has(x, y)
			term.Has(y, x)
		}
	}
	term.Sort(bad)
}
