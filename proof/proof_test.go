package proof_test

import (
	"math"
	"math/rand"
	"slices"
	"strings"
	"testing"

	"countersign/api"
	"countersign/know"
	"countersign/proof"
	"countersign/term"
)

func atom(s string) api.Term { return api.Term{Kind: api.Atom, S: s} }

func nonce(n int) api.Term { return api.Term{Kind: api.Nonce, N: n} }

func of(kind int, kids ...api.Term) api.Term { return api.Term{Kind: kind, Kids: kids} }

func list(l ...api.Term) []api.Term { return l }

func moves(l ...api.Move) []api.Move { return l }

func known(a int) api.Move { return api.Move{Kind: api.MKnown, A: a} }

func say(s string) api.Move { return api.Move{Kind: api.MAtom, S: s} }

func one(kind, a int) api.Move { return api.Move{Kind: kind, A: a} }

func two(kind, a, b int) api.Move { return api.Move{Kind: kind, A: a, B: b} }

// tower is t below so many nodes of a Kind; where the Kind has two Kids, the first is an Atom.
func tower(kind, n int, t api.Term) api.Term {
	for range n {
		if kind == api.Hash || kind == api.Pub {
			t = of(kind, t)
		} else {
			t = of(kind, atom("k"), t)
		}
	}
	return t
}

// tree is a full tree of a Kind, so deep, with Nonces from *next on at its ends: 2^deep - 1 nodes.
func tree(kind, deep int, next *int) api.Term {
	if deep == 1 {
		*next++
		return nonce(*next - 1)
	}
	left := tree(kind, deep-1, next)
	return of(kind, left, tree(kind, deep-1, next))
}

// alike says whether all of a and b is the same, of no terms, too.
func alike(a, b api.Term) bool {
	return a.Kind == b.Kind && a.N == b.N && a.S == b.S && slices.EqualFunc(a.Kids, b.Kids, alike)
}

// twin is the same term in other memory, with spare room behind its Kids.
func twin(t api.Term) api.Term {
	kids := make([]api.Term, 0, len(t.Kids)+2)
	for _, kid := range t.Kids {
		kids = append(kids, twin(kid))
	}
	t.Kids = kids
	return t
}

func twins(l []api.Term) []api.Term {
	var out []api.Term
	for _, t := range l {
		out = append(out, twin(t))
	}
	return out
}

func askRun(t *testing.T, l []api.Term, m []api.Move, want []api.Term, e api.Errno) {
	t.Helper()
	got, f := proof.Run(l, m)
	if f != e || !slices.EqualFunc(got, want, alike) {
		t.Errorf("Run of %.400v: %.400v, %v; not %.400v, %v", m, got, f, want, e)
	}
}

// askFault asks that Run refuses m so, and what is proved by it is nothing.
func askFault(t *testing.T, e api.Errno, l []api.Term, m ...api.Move) {
	t.Helper()
	askRun(t, l, m, nil, e)
	for _, x := range append(list(api.Term{}, atom(""), nonce(1)), l...) {
		if proof.Proves(l, m, x) {
			t.Errorf("Proves by %.400v, in spite of %v", m, e)
		}
	}
}

// askWay asks for a way to x that holds, or that there is none; it answers how many moves it has.
func askWay(t *testing.T, want bool, l []api.Term, x api.Term) int {
	t.Helper()
	m, is := proof.Way(l, x)
	if is != want || !want && len(m) != 0 {
		t.Errorf("Way to %v by %v: %v, %v", x, l, m, is)
		return 0
	}
	if !want {
		return 0
	}
	got, e := reckon(l, m)
	if len(m) == 0 || len(m) > 1024 || e != api.OK || !alike(got[len(got)-1], x) || !proof.Proves(l, m, x) {
		t.Errorf("Way to %v by %v: %v", x, l, m)
	}
	for i, x := range m {
		hasA, hasB, hasS := x.Kind != api.MAtom, x.Kind >= api.MMac, x.Kind == api.MAtom
		if !hasA && x.A != 0 || !hasB && x.B != 0 || !hasS && x.S != "" {
			t.Errorf("Way has in its move %d a field without a meaning: %v", i, x)
		}
	}
	return len(m)
}

// P401: the chapter's example.
func TestExample(t *testing.T) {
	askRun(t, nil, moves(say("a"), one(api.MHash, 0)), list(atom("a"), of(api.Hash, atom("a"))), api.OK)
}

// P401: each Kind of move by itself.
func TestRunKinds(t *testing.T) {
	a, b := nonce(1), of(api.Hash, nonce(2))
	pair, sig := of(api.Pair, a, b), of(api.Sig, a, b)
	l := list(a, b, pair, sig)
	askRun(t, l, nil, nil, api.OK)
	askRun(t, l, moves(), nil, api.OK)
	askRun(t, nil, nil, nil, api.OK)
	for i, x := range l {
		askRun(t, l, moves(known(i)), list(x), api.OK)
	}
	for _, s := range []string{"", "a", "\x00\xff", strings.Repeat("\xff", 1024)} {
		askRun(t, nil, moves(say(s)), list(atom(s)), api.OK)
	}
	askRun(t, l, moves(known(2), one(api.MLeft, 0)), list(pair, a), api.OK)
	askRun(t, l, moves(known(2), one(api.MRight, 0)), list(pair, b), api.OK)
	askRun(t, l, moves(known(3), one(api.MOpen, 0)), list(sig, b), api.OK)
	for move, kind := range map[int]int{api.MHash: api.Hash, api.MPub: api.Pub} {
		askRun(t, l, moves(known(0), known(1), one(move, 0)), list(a, b, of(kind, a)), api.OK)
		askRun(t, l, moves(known(0), known(1), one(move, 1)), list(a, b, of(kind, b)), api.OK)
	}
	for move, kind := range map[int]int{api.MMac: api.Mac, api.MSig: api.Sig, api.MPair: api.Pair} {
		askRun(t, l, moves(known(0), known(1), two(move, 0, 1)), list(a, b, of(kind, a, b)), api.OK)
		askRun(t, l, moves(known(0), known(1), two(move, 1, 0)), list(a, b, of(kind, b, a)), api.OK)
		askRun(t, l, moves(known(0), known(1), two(move, 1, 1)), list(a, b, of(kind, b, b)), api.OK)
	}
}

// P401: numbers of MKnown are those of l, numbers of others those of moves, from 0 on.
func TestRunNumbers(t *testing.T) {
	l := list(nonce(10), nonce(11), nonce(12))
	m := moves(known(2), known(0), known(2), one(api.MHash, 1), one(api.MHash, 3), two(api.MPair, 4, 0), one(api.MLeft, 5), one(api.MRight, 5))
	h := of(api.Hash, nonce(10))
	askRun(t, l, m, list(nonce(12), nonce(10), nonce(12), h, of(api.Hash, h), of(api.Pair, of(api.Hash, h), nonce(12)), of(api.Hash, h), nonce(12)), api.OK)
	askRun(t, l[:1], moves(known(0), known(0), known(0), two(api.MMac, 2, 1)), list(nonce(10), nonce(10), nonce(10), of(api.Mac, nonce(10), nonce(10))), api.OK)
}

// P401: fields that are not named for a move play no part.
func TestRunOtherFields(t *testing.T) {
	l := list(of(api.Pair, nonce(1), nonce(2)), of(api.Sig, nonce(3), nonce(4)))
	long := strings.Repeat("x", 5000)
	for _, far := range []int{-1, 99, math.MinInt, math.MaxInt} {
		m := moves(
			api.Move{Kind: api.MKnown, A: 0, B: far, S: long}, api.Move{Kind: api.MKnown, A: 1, B: far, S: long}, api.Move{Kind: api.MAtom, A: far, B: far, S: "s"},
			api.Move{Kind: api.MLeft, A: 0, B: far, S: long}, api.Move{Kind: api.MRight, A: 0, B: far, S: long}, api.Move{Kind: api.MOpen, A: 1, B: far, S: long},
			api.Move{Kind: api.MHash, A: 3, B: far, S: long}, api.Move{Kind: api.MPub, A: 3, B: far, S: long},
			api.Move{Kind: api.MMac, A: 3, B: 4, S: long}, api.Move{Kind: api.MSig, A: 3, B: 4, S: long}, api.Move{Kind: api.MPair, A: 3, B: 4, S: long})
		want := list(l[0], l[1], atom("s"), nonce(1), nonce(2), nonce(4), of(api.Hash, nonce(1)), of(api.Pub, nonce(1)), of(api.Mac, nonce(1), nonce(2)), of(api.Sig, nonce(1), nonce(2)), of(api.Pair, nonce(1), nonce(2)))
		askRun(t, l, m, want, api.OK)
	}
}

// P401: ErrMany of more than MaxMoves, ahead of all else.
func TestRunMany(t *testing.T) {
	most := slices.Repeat(moves(known(0)), 1024)
	askRun(t, list(nonce(1)), most, slices.Repeat(list(nonce(1)), 1024), api.OK)
	if !proof.Proves(list(nonce(1)), most, nonce(1)) {
		t.Error("Proves by 1024 moves")
	}
	askFault(t, api.ErrMany, list(nonce(1)), append(most, known(0))...)
	askFault(t, api.ErrMany, list(nonce(1)), append(most, api.Move{})...)
	askFault(t, api.ErrMany, nil, make([]api.Move, 1025)...)
	askFault(t, api.ErrMany, nil, slices.Repeat(moves(known(0)), 1<<16)...)
	askFault(t, api.ErrKind, nil, make([]api.Move, 1024)...)
}

// P401: ErrKind, whatever else is wrong with the move.
func TestRunKindIsNone(t *testing.T) {
	for _, kind := range []int{0, -1, 11, 12, 255, 257, 1<<32 + 1, math.MinInt, math.MaxInt} {
		askFault(t, api.ErrKind, list(nonce(1)), api.Move{Kind: kind})
		askFault(t, api.ErrKind, list(nonce(1)), known(0), api.Move{Kind: kind, A: -1, B: 99, S: strings.Repeat("x", 1025)})
	}
}

// P401: ErrRange, of A and of B; a move points neither to itself nor ahead.
func TestRunRange(t *testing.T) {
	l := list(nonce(1), nonce(2), of(api.Pair, nonce(3), nonce(4)), nonce(5), nonce(6))
	for _, far := range []int{-1, 5, 6, math.MinInt, math.MaxInt} {
		askFault(t, api.ErrRange, l, known(far))
	}
	askFault(t, api.ErrRange, nil, known(0))
	askFault(t, api.ErrRange, list(), say(""), known(0))
	for kind := api.MLeft; kind <= api.MPair; kind++ {
		askFault(t, api.ErrRange, l, one(kind, 0))
		for _, far := range []int{-1, 2, 3, 4, math.MinInt, math.MaxInt} {
			askFault(t, api.ErrRange, l, known(2), known(2), two(kind, far, 0), known(2), known(2))
			if kind >= api.MMac {
				askFault(t, api.ErrRange, l, known(2), known(2), two(kind, 0, far), known(2), known(2))
			}
		}
	}
}

// P401: ErrForm, where there is nothing of the kind to be taken out.
func TestRunShut(t *testing.T) {
	shut := list(atom("a"), nonce(1), of(api.Hash, of(api.Pair, nonce(1), nonce(1))), of(api.Pub, of(api.Sig, nonce(1), nonce(1))), of(api.Mac, nonce(1), nonce(2)), of(api.Sig, nonce(1), nonce(2)), of(api.Pair, nonce(1), nonce(2)))
	for i, x := range shut {
		for _, kind := range []int{api.MLeft, api.MRight} {
			if x.Kind != api.Pair {
				askFault(t, api.ErrForm, shut, known(i), one(kind, 0))
			}
		}
		if x.Kind != api.Sig {
			askFault(t, api.ErrForm, shut, known(i), one(api.MOpen, 0))
		}
	}
}

// P401: ErrForm, where what comes of a move is no term: its bytes, its depth, its nodes; each bound by itself.
func TestRunNoTerm(t *testing.T) {
	askFault(t, api.ErrForm, nil, say(strings.Repeat("x", 1025)))
	askFault(t, api.ErrForm, nil, say(""), say(strings.Repeat("x", 1<<20)))
	next := 0
	full := tree(api.Pair, 6, &next) // 63 nodes
	most := of(api.Hash, full)
	l := list(tower(api.Hash, 15, nonce(1)), tower(api.Pair, 14, nonce(1)), full, most, tree(api.Mac, 5, &next), nonce(7))
	for kind := api.MHash; kind <= api.MPub; kind++ {
		askFault(t, api.ErrForm, l, known(0), one(kind, 0))
		askFault(t, api.ErrForm, l, known(3), one(kind, 0))
		made := kind - api.MHash + api.Hash
		askRun(t, l, moves(known(1), one(kind, 0)), list(l[1], of(made, l[1])), api.OK)
		askRun(t, l, moves(known(2), one(kind, 0)), list(full, of(made, full)), api.OK)
	}
	for kind := api.MMac; kind <= api.MPair; kind++ {
		made := kind - api.MMac + api.Mac
		askFault(t, api.ErrForm, l, known(0), known(5), two(kind, 0, 1))
		askFault(t, api.ErrForm, l, known(0), known(5), two(kind, 1, 0))
		askFault(t, api.ErrForm, l, known(2), known(5), two(kind, 0, 1))
		askFault(t, api.ErrForm, l, known(3), known(5), two(kind, 1, 0))
		askFault(t, api.ErrForm, l, known(4), one(api.MHash, 0), two(kind, 1, 1))
		askRun(t, l, moves(known(1), known(5), two(kind, 0, 1), two(kind, 1, 0)), list(l[1], nonce(7), of(made, l[1], nonce(7)), of(made, nonce(7), l[1])), api.OK)
		askRun(t, l, moves(known(4), one(api.MPub, 0), two(kind, 0, 1)), list(l[4], of(api.Pub, l[4]), of(made, l[4], of(api.Pub, l[4]))), api.OK)
	}
}

// P401, P5: of each move ErrKind ahead of ErrRange ahead of ErrForm; of two moves the earlier one's.
func TestRunOrder(t *testing.T) {
	l := list(nonce(1), tower(api.Hash, 15, nonce(1)))
	kind, far, shut := api.Move{}, one(api.MHash, 9), one(api.MLeft, 0)
	askFault(t, api.ErrKind, l, known(0), kind, far, shut)
	askFault(t, api.ErrRange, l, known(0), far, kind, shut)
	askFault(t, api.ErrForm, l, known(0), shut, kind, far)
	askFault(t, api.ErrForm, l, known(0), shut, far, kind)
	askFault(t, api.ErrRange, l, known(9), kind)
	askFault(t, api.ErrRange, l, known(1), two(api.MPair, 0, 1))
	askFault(t, api.ErrRange, l, known(1), two(api.MPair, 1, 0))
	askFault(t, api.ErrRange, l, known(0), one(api.MLeft, 1))
}

// P402: the last result alone is proved, by one move at least, without an error.
func TestProves(t *testing.T) {
	l := list(nonce(1), of(api.Pair, nonce(2), nonce(3)))
	m := moves(known(1), one(api.MRight, 0), known(0), two(api.MMac, 1, 2))
	results := list(l[1], nonce(3), nonce(1), of(api.Mac, nonce(3), nonce(1)))
	for i := range len(m) + 1 {
		for k, x := range results {
			if proof.Proves(l, m[:i], twin(x)) != (i == k+1) {
				t.Errorf("Proves of result %d by %d moves", k, i)
			}
		}
	}
	for i, x := range list(nonce(0), nonce(2), of(api.Mac, nonce(1), nonce(3)), of(api.Sig, nonce(3), nonce(1)), of(api.Mac, nonce(3), nonce(1), nonce(1)), of(api.Mac, nonce(3)), api.Term{}) {
		if proof.Proves(l, m, x) {
			t.Errorf("Proves another one, %d", i)
		}
	}
	if proof.Proves(l, nil, api.Term{}) || proof.Proves(l, moves(), nonce(1)) || proof.Proves(nil, nil, atom("")) {
		t.Error("Proves by no moves")
	}
	if proof.Proves(l, append(m, api.Move{}), results[3]) || proof.Proves(l, append(moves(known(7)), m...), results[3]) {
		t.Error("Proves in spite of an error")
	}
}

// P402: of any t of up to 2^16 nodes, in whichever shape: none that is no term is proved.
func TestProvesGreat(t *testing.T) {
	next := 0
	l := list(nonce(1), tower(api.Hash, 15, nonce(1)))
	m := moves(known(1))
	great := list(tower(api.Hash, 1<<16-1, nonce(1)), tower(api.Pair, 1<<15-1, nonce(1)), tree(api.Pair, 16, &next), of(api.Pair, make([]api.Term, 1<<16-1)...), of(api.Hash, slices.Repeat(l[1].Kids, 1<<12)...), tower(api.Hash, 16, nonce(1)))
	for i, x := range great {
		if proof.Proves(l, m, x) || proof.Proves(l, moves(known(0)), x) {
			t.Errorf("Proves what is no term, number %d", i)
		}
	}
	for i, x := range list(api.Term{Kind: api.Nonce, N: 1, S: "s"}, api.Term{Kind: api.Nonce, N: 1, Kids: l}, api.Term{Kind: api.Atom}) {
		if proof.Proves(l, moves(known(0)), x) {
			t.Errorf("Proves what has a field too many, number %d", i)
		}
	}
	if !proof.Proves(l, m, twin(l[1])) {
		t.Error("Proves")
	}
}

// P402: a way out of each Kind, into each Kind, and none where there is none.
func TestWay(t *testing.T) {
	a, b := nonce(1), nonce(2)
	for _, x := range list(atom(""), atom(strings.Repeat("\xff", 1024)), tower(api.Hash, 15, atom("a")), tower(api.Mac, 15, atom("")), of(api.Sig, atom("k"), of(api.Pub, atom("")))) {
		askWay(t, true, nil, x)
		askWay(t, true, list(x, x), x)
		askWay(t, true, list(a), x)
	}
	for _, kind := range []int{api.Hash, api.Pub} {
		x := of(kind, a)
		askWay(t, true, list(a), x)
		askWay(t, true, list(x), x)
		askWay(t, true, list(x), of(kind, x))
		askWay(t, false, list(x), a)
		askWay(t, false, list(b, of(kind, b)), x)
		askWay(t, false, list(of(api.Hash+api.Pub-kind, a)), x)
	}
	for _, kind := range []int{api.Mac, api.Sig, api.Pair} {
		x := of(kind, a, b)
		askWay(t, true, list(b, a), x)
		askWay(t, true, list(x), x)
		askWay(t, true, list(x), of(api.Hash, x))
		askWay(t, false, list(a), x)
		askWay(t, false, list(b), x)
		askWay(t, false, nil, x)
		askWay(t, kind == api.Pair, list(x), a)
		askWay(t, kind != api.Mac, list(x), b)
		askWay(t, kind == api.Pair, list(x), of(kind, b, a))
		askWay(t, kind == api.Pair, list(atom(""), of(api.Pair, nonce(3), of(api.Sig, nonce(4), x))), of(api.Mac, a, nonce(3)))
	}
	askWay(t, false, nil, nonce(0))
	askWay(t, false, list(), nonce(api.MaxNonce))
	askWay(t, true, list(nonce(0), nonce(api.MaxNonce)), nonce(api.MaxNonce))
	askWay(t, true, list(nonce(5), nonce(5), a), of(api.Pair, of(api.Pair, a, nonce(5)), of(api.Pair, nonce(5), a)))
}

// P402: what is known as a whole, while its Kids are not, is taken as a whole, at the top, within, and behind a Sig.
func TestWayTakesWholes(t *testing.T) {
	shut := list(of(api.Hash, nonce(1)), of(api.Pub, nonce(1)), of(api.Mac, nonce(1), nonce(2)), of(api.Sig, nonce(1), atom("m")))
	for _, x := range shut {
		for _, l := range [][]api.Term{{x}, {nonce(9), x}, {of(api.Pair, x, atom(""))}, {of(api.Pair, atom(""), x)}, {of(api.Sig, nonce(3), x)}, {of(api.Sig, nonce(3), of(api.Pair, of(api.Pair, atom(""), x), nonce(9)))}} {
			askWay(t, true, l, x)
			askWay(t, true, l, of(api.Mac, x, of(api.Pair, x, of(api.Hash, x))))
			askWay(t, false, l, of(api.Mac, x, of(api.Pair, x, nonce(1))))
			askWay(t, false, l, nonce(1))
		}
	}
}

// P402: at most MaxMoves, of the greatest terms out of the deepest places.
func TestWayAtMost(t *testing.T) {
	for _, kind := range []int{api.Pair, api.Sig} {
		var l []api.Term
		for n := range 32 {
			l = append(l, tower(kind, 15, nonce(n)))
		}
		next, most := 0, 0
		for _, made := range []int{api.Mac, api.Sig, api.Pair} {
			next = 0
			most = max(most, askWay(t, true, l, of(api.Hash, tree(made, 6, &next))))
		}
		if most < 32 {
			t.Errorf("Way to what has 32 ends has %d moves", most)
		}
	}
	next := 0
	askWay(t, true, list(tree(api.Pair, 6, &next)), nonce(31))
	left := nonce(7)
	for range 15 {
		left = of(api.Pair, left, nonce(8))
	}
	askWay(t, true, list(left), of(api.Mac, nonce(7), nonce(8)))
	var all []api.Term
	for n := range 1 << 12 {
		all = append(all, of(api.Pair, nonce(2*n), nonce(2*n+1)))
	}
	askWay(t, true, all, of(api.Mac, nonce(8191), nonce(4096)))
	askWay(t, false, all, nonce(8192))
}

// reckon runs in another way: with all that may be wrong of a move in a row, and its results in a map.
func reckon(l []api.Term, m []api.Move) ([]api.Term, api.Errno) {
	if len(m) > 1024 {
		return nil, api.ErrMany
	}
	var out []api.Term
	at := map[int]api.Term{}
	for i, x := range m {
		a, hasA := at[x.A]
		b, hasB := at[x.B]
		if x.Kind == 1 && x.A >= 0 && x.A < len(l) {
			a, hasA = l[x.A], true
		} else if x.Kind == 1 {
			hasA = false
		}
		made := api.Term{}
		switch {
		case x.Kind < 1 || x.Kind > 10:
			return nil, api.ErrKind
		case x.Kind != 2 && !hasA, x.Kind > 7 && !hasB:
			return nil, api.ErrRange
		case (x.Kind == 3 || x.Kind == 4) && a.Kind != 7, x.Kind == 5 && a.Kind != 6:
			return nil, api.ErrForm
		case x.Kind == 1:
			made = a
		case x.Kind == 2:
			made = atom(x.S)
		case x.Kind <= 5:
			made = a.Kids[min(x.Kind-3, 1)]
		case x.Kind <= 7:
			made = of(x.Kind-3, a)
		default:
			made = of(x.Kind-3, a, b)
		}
		if !term.May(made) {
			return nil, api.ErrForm
		}
		at[i] = made
		out = append(out, made)
	}
	return out, api.OK
}

// drawTerm draws a term of few different Nonces and Atoms, at most so deep.
func drawTerm(draw *rand.Rand, deep int) api.Term {
	kind := 1 + draw.Intn(9)
	switch {
	case kind == api.Atom:
		return atom([]string{"", "a", "b"}[draw.Intn(3)])
	case kind == api.Hash || kind == api.Pub:
		if deep > 1 {
			return of(kind, drawTerm(draw, deep-1))
		}
	case kind >= api.Mac && deep > 1:
		return of(min(kind, api.Pair), drawTerm(draw, deep-1), drawTerm(draw, deep-1))
	}
	return nonce(draw.Intn(6))
}

func drawList(draw *rand.Rand, most, deep int) []api.Term {
	var l []api.Term
	for range draw.Intn(most + 1) {
		l = append(l, drawTerm(draw, deep))
	}
	return l
}

// drawMoves draws moves, most of which fit those ahead of them.
func drawMoves(draw *rand.Rand, l []api.Term, most int) []api.Move {
	var m []api.Move
	for range draw.Intn(most + 1) {
		if draw.Intn(30) == 0 {
			m = append(m, api.Move{Kind: draw.Intn(12), A: draw.Intn(9) - 1, B: draw.Intn(9) - 1, S: strings.Repeat("x", 1020+draw.Intn(7))})
		}
		for range 8 {
			x := api.Move{Kind: 1 + draw.Intn(10), A: draw.Intn(len(m) + 1), B: draw.Intn(len(m) + 1), S: "ab"[:draw.Intn(3)]}
			if _, e := reckon(l, append(slices.Clone(m), x)); e == api.OK || draw.Intn(60) == 0 {
				m = append(m, x)
				break
			}
		}
	}
	return m
}

// P401, P402, P403: moves that were drawn, as reckoned in another way; what is proved, Can, and there is a Way to it.
func TestDrawnMoves(t *testing.T) {
	draw := rand.New(rand.NewSource(4))
	met := map[api.Errno]int{}
	for range 12000 {
		l := drawList(draw, 5, 5)
		m := drawMoves(draw, l, 14)
		want, e := reckon(l, m)
		askRun(t, l, m, want, e)
		met[e]++
		for i, x := range want {
			if proof.Proves(l, m, x) != alike(x, want[len(want)-1]) || !proof.Proves(l, m[:i+1], x) {
				t.Errorf("Proves of result %d by %v", i, m)
			}
			if !know.Can(l, x) {
				t.Errorf("what is proved can't be made: %v by %v", x, l)
			}
		}
		if len(want) > 0 {
			askWay(t, true, l, want[len(want)-1])
		}
	}
	for _, e := range []api.Errno{api.OK, api.ErrKind, api.ErrRange, api.ErrForm} {
		if met[e] < 100 {
			t.Errorf("%v was met %d times", e, met[e])
		}
	}
}

// P402, P403: what Can, is proved; what can't, is not.
func TestDrawnWays(t *testing.T) {
	draw := rand.New(rand.NewSource(5))
	met := map[bool]int{}
	for range 8000 {
		l := drawList(draw, 6, 5)
		for range 3 {
			x := drawTerm(draw, 4)
			can := know.Can(l, x)
			askWay(t, can, l, twin(x))
			if x.Kind > api.Nonce {
				met[can]++
			}
		}
		for _, x := range know.Open(l) {
			askWay(t, true, l, x)
		}
	}
	if met[true] < 1000 || met[false] < 1000 {
		t.Errorf("there was a Way %d times, and none %d times", met[true], met[false])
	}
}

// spoil overwrites all lists of an answer, their spare room too.
func spoil(l []api.Term) {
	l = l[:cap(l)]
	for i := range l {
		spoil(l[i].Kids)
		l[i] = atom("spoilt")
	}
}

// P2: what is handed in, its spare room too, is not changed, and is not kept.
func TestHandedInStays(t *testing.T) {
	room := append(make([]api.Term, 0, 8), twin(of(api.Pair, nonce(2), of(api.Sig, nonce(1), of(api.Pair, nonce(3), atom("a"))))), nonce(9))
	for i := len(room); i < cap(room); i++ {
		room[:cap(room)][i] = nonce(1000 - i)
	}
	x := twin(of(api.Mac, nonce(3), of(api.Pair, nonce(2), nonce(9))))
	m := append(make([]api.Move, 0, 20), known(0), one(api.MRight, 0), one(api.MOpen, 1), one(api.MLeft, 2), one(api.MLeft, 0), known(1), two(api.MPair, 4, 5), two(api.MMac, 3, 6))
	for i := len(m); i < cap(m); i++ {
		m[:cap(m)][i] = known(i)
	}
	var lists [][]api.Term
	var note func(l []api.Term)
	note = func(l []api.Term) {
		l = l[:cap(l)]
		lists = append(lists, l)
		for _, t := range l {
			note(t.Kids)
		}
	}
	note(room)
	note(x.Kids)
	var before [][]api.Term
	for _, l := range lists {
		before = append(before, twins(l))
	}
	held := slices.Clone(m[:cap(m)])
	answer, e := proof.Run(room, m)
	again, _ := proof.Run(room, m)
	spoil(again)
	way, is := proof.Way(room, x)
	if e != api.OK || !is || !proof.Proves(room, m, x) || !proof.Proves(room, way, x) {
		t.Errorf("%v, %v", e, is)
	}
	other, _ := proof.Way(room, x)
	clear(other[:cap(other)])
	for i, l := range lists {
		if !slices.EqualFunc(l, before[i], alike) {
			t.Errorf("list %d of what was handed in was changed", i)
		}
	}
	if !slices.Equal(m[:cap(m)], held) || !proof.Proves(room, way, x) {
		t.Error("moves were changed")
	}
	want, steps := twins(answer), slices.Clone(way)
	spoil(room)
	spoil(x.Kids)
	clear(m[:cap(m)])
	if !slices.EqualFunc(answer, want, alike) || !slices.Equal(way, steps) {
		t.Error("an answer changed with what was handed in")
	}
}

// P2: no two lists of one answer, nor of two, share memory, spare room too: though results are made of results.
func TestAnswersAreNew(t *testing.T) {
	l := list(twin(of(api.Pair, of(api.Mac, nonce(1), nonce(2)), of(api.Sig, nonce(3), of(api.Hash, nonce(4))))))
	m := moves(known(0), known(0), one(api.MLeft, 0), one(api.MRight, 0), one(api.MOpen, 3), one(api.MHash, 2), one(api.MPub, 2), two(api.MPair, 2, 2), two(api.MMac, 7, 7), two(api.MSig, 2, 3))
	owner := map[*api.Term]bool{}
	var own func(l []api.Term)
	own = func(l []api.Term) {
		l = l[:cap(l)]
		for i := range l {
			if owner[&l[i]] {
				t.Error("two lists share memory")
			}
			owner[&l[i]] = true
			own(l[i].Kids)
		}
	}
	own(l)
	for range 2 {
		got, e := proof.Run(l, m)
		if e != api.OK {
			t.Error(e)
		}
		own(got)
	}
	if len(owner) < 2*50 {
		t.Errorf("%d places", len(owner))
	}
}

// P2: no list and an empty one are the same.
func TestNoKidsAndEmptyKids(t *testing.T) {
	a, b := nonce(1), api.Term{Kind: api.Nonce, N: 1, Kids: []api.Term{}}
	for _, x := range list(a, b) {
		for _, y := range list(a, b) {
			if !proof.Proves(list(x), moves(known(0)), y) || !proof.Proves(list(x), moves(known(0), one(api.MHash, 0)), of(api.Hash, y)) {
				t.Error("no Kids and empty Kids differ")
			}
			askWay(t, true, list(of(api.Hash, x)), of(api.Hash, y))
			askWay(t, true, list(x), of(api.Mac, y, y))
		}
	}
}

// P3
func TestSameAnswers(t *testing.T) {
	draw := rand.New(rand.NewSource(6))
	for range 50 {
		l, x := drawList(draw, 20, 5), drawTerm(draw, 4)
		way, is := proof.Way(l, x)
		m := drawMoves(draw, l, 10)
		run, e := proof.Run(l, m)
		for range 5 {
			proof.Way(list(nonce(77), of(api.Pair, nonce(0), nonce(1))), of(api.Hash, nonce(0)))
			if again, is2 := proof.Way(twins(l), twin(x)); is2 != is || !slices.Equal(again, way) {
				t.Error("Way answered otherwise")
			}
			askRun(t, l, m, run, e)
		}
	}
	askWay(t, false, nil, nonce(77))
	askWay(t, false, nil, nonce(0))
}

// P1: of what is no term, too, each call ends, and none panics; no Way leads through it.
func TestNoTermsEnd(t *testing.T) {
	within := []api.Term{{Kind: api.Pair}, {Kind: api.Pair}}
	within[0].Kids, within[1].Kids = within, within
	folded := nonce(1)
	for range 1 << 10 {
		folded = of(api.Pair, folded, folded)
	}
	crowd := make([]api.Term, 1<<16)
	next := 0
	bad := list(api.Term{}, within[0], of(api.Sig, within...), folded, tower(api.Pair, 16, nonce(1)), tower(api.Sig, 1<<16, nonce(1)), tree(api.Pair, 7, &next), of(api.Pair, crowd...), of(api.Pair, nonce(1)), of(api.Pair), of(api.Sig), of(api.Sig, nonce(1)), of(api.Hash), of(api.Mac, nonce(1)), of(api.Atom, within...), of(api.Pair, nonce(1), api.Term{}), of(api.Pair, of(api.Sig), nonce(1)), nonce(-1), nonce(math.MaxInt), atom(strings.Repeat("x", 1025)), api.Term{Kind: 8}, api.Term{Kind: math.MinInt, N: math.MaxInt, S: "s", Kids: within})
	for i, x := range bad {
		for kind := api.MLeft; kind <= api.MPair; kind++ {
			if got, e := proof.Run(list(nonce(1), x), moves(known(1), two(kind, 0, 0))); e == api.OK || len(got) != 0 {
				t.Errorf("Run of what is no term, number %d: %v", i, e)
			}
		}
		if proof.Proves(list(nonce(1), x), moves(known(1)), x) || proof.Proves(list(nonce(1)), moves(known(0)), x) {
			t.Errorf("Proves what is no term, number %d", i)
		}
		if m, is := proof.Way(list(nonce(1), x), x); is || len(m) != 0 {
			t.Errorf("Way to what is no term, number %d", i)
		}
		askWay(t, false, list(x), nonce(1))
		askWay(t, true, list(x, of(api.Pair, nonce(1), nonce(2)), x), of(api.Mac, nonce(1), nonce(2)))
	}
	askWay(t, true, append(bad, nonce(1)), of(api.Hash, nonce(1)))
	askWay(t, false, crowd, nonce(1))
	numbers := []int{math.MinInt, -1, 0, 1, 2, 11, math.MaxInt}
	for _, kind := range append(numbers, 3, 4, 5, 6, 7, 8, 9, 10) {
		for _, a := range numbers {
			for _, b := range numbers {
				m := moves(say("a"), api.Move{Kind: kind, A: a, B: b, S: "s"})
				got, e := proof.Run(bad, m)
				if e != api.OK && len(got) != 0 || e == api.OK && len(got) != 2 {
					t.Errorf("Run of %v: %v, %v", m, got, e)
				}
				proof.Proves(bad, m, bad[1])
			}
		}
	}
}
