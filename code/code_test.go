package code_test

import (
	"bytes"
	"encoding/binary"
	"math"
	"math/rand"
	"slices"
	"strings"
	"testing"

	"countersign/api"
	"countersign/code"
	"countersign/term"
)

func atom(s string) api.Term { return api.Term{Kind: api.Atom, S: s} }

func nonce(n int) api.Term { return api.Term{Kind: api.Nonce, N: n} }

func of(kind int, kids ...api.Term) api.Term { return api.Term{Kind: kind, Kids: kids} }

// tower is t below so many Hashes.
func tower(n int, t api.Term) api.Term {
	for range n {
		t = of(api.Hash, t)
	}
	return t
}

// tree is a full tree of Pairs, so deep: 2^deep - 1 nodes.
func tree(deep int) api.Term {
	if deep == 1 {
		return atom("x")
	}
	return of(api.Pair, tree(deep-1), tree(deep-1))
}

// chain is so many Pairs, each the second Kid of the one above: 2n+1 nodes, n+1 deep.
func chain(n int) api.Term {
	t := atom("end")
	for range n {
		t = of(api.Pair, nonce(n), t)
	}
	return t
}

// join is the bytes of all, one behind the other.
func join(all ...[]byte) []byte { return bytes.Join(all, nil) }

// fill is a byte so many times.
func fill(b byte, n int) []byte { return bytes.Repeat([]byte{b}, n) }

// alike says whether all of a and b is the same, of no terms, too.
func alike(a, b api.Term) bool {
	return a.Kind == b.Kind && a.N == b.N && a.S == b.S && slices.EqualFunc(a.Kids, b.Kids, alike)
}

// pairs are terms with their bytes, written out by hand.
func pairs() []struct {
	t api.Term
	b []byte
} {
	long := strings.Repeat("\xff", api.MaxAtom)
	return []struct {
		t api.Term
		b []byte
	}{
		{atom(""), []byte{1, 0, 0}},
		{atom("\x00"), []byte{1, 0, 1, 0}},
		{atom("ab"), []byte{1, 0, 2, 'a', 'b'}},
		{atom("\xc3\x00\xff"), []byte{1, 0, 3, 0xc3, 0, 0xff}},
		{atom(long[:255]), join([]byte{1, 0, 255}, fill(255, 255))},
		{atom(long[:256]), join([]byte{1, 1, 0}, fill(255, 256))},
		{atom(long[:258]), join([]byte{1, 1, 2}, fill(255, 258))},
		{atom(long[:1023]), join([]byte{1, 3, 255}, fill(255, 1023))},
		{atom(long), join([]byte{1, 4, 0}, fill(255, 1024))},
		{nonce(0), []byte{2, 0, 0, 0, 0}},
		{nonce(255), []byte{2, 0, 0, 0, 255}},
		{nonce(258), []byte{2, 0, 0, 1, 2}},
		{nonce(1 << 16), []byte{2, 0, 1, 0, 0}},
		{nonce(0x01020304), []byte{2, 1, 2, 3, 4}},
		{nonce(api.MaxNonce - 1), []byte{2, 0x3f, 255, 255, 255}},
		{nonce(api.MaxNonce), []byte{2, 0x40, 0, 0, 0}},
		{of(api.Hash, atom("h")), []byte{3, 1, 0, 1, 'h'}},
		{of(api.Pub, nonce(1)), []byte{4, 2, 0, 0, 0, 1}},
		{of(api.Mac, nonce(1), atom("")), []byte{5, 2, 0, 0, 0, 1, 1, 0, 0}},
		{of(api.Sig, nonce(1), atom("m")), []byte{6, 2, 0, 0, 0, 1, 1, 0, 1, 'm'}},
		{of(api.Pair, atom("l"), atom("r")), []byte{7, 1, 0, 1, 'l', 1, 0, 1, 'r'}},
		{of(api.Pair, of(api.Pair, atom(""), nonce(2)), of(api.Hash, nonce(3))), []byte{7, 7, 1, 0, 0, 2, 0, 0, 0, 2, 3, 2, 0, 0, 0, 3}},
		{tower(15, nonce(1)), join(fill(3, 15), []byte{2, 0, 0, 0, 1})},
		{of(api.Pub, of(api.Sig, atom(""), of(api.Mac, nonce(9), atom("")))), []byte{4, 6, 1, 0, 0, 5, 2, 0, 0, 0, 9, 1, 0, 0}},
	}
}

// P201, P202: what is written out by hand, both ways.
func TestByHand(t *testing.T) {
	for i, c := range pairs() {
		if got := code.Put(c.t); !bytes.Equal(got, c.b) {
			t.Errorf("Put of number %d: %v", i, got)
		}
		if got, n, e := code.Take(c.b); e != api.OK || n != len(c.b) || !alike(got, c.t) {
			t.Errorf("Take of number %d: %#v, %d, %v", i, got, n, e)
		}
		if got, e := code.One(c.b); e != api.OK || !alike(got, c.t) {
			t.Errorf("One of number %d: %#v, %v", i, got, e)
		}
	}
}

// noTerms are not allowed by term.May, for each reason that there is.
func noTerms() []api.Term {
	within := []api.Term{{Kind: api.Pair}, {Kind: api.Pair}}
	within[0].Kids, within[1].Kids = within, within
	return []api.Term{
		{}, {Kind: 8}, {Kind: -1}, {Kind: 257, S: "a"}, {Kind: math.MinInt}, {Kind: math.MaxInt, Kids: within},
		nonce(-1), nonce(api.MaxNonce + 1), nonce(1<<32 + 1), nonce(math.MinInt),
		atom(strings.Repeat("x", 1025)), atom(strings.Repeat("x", 1<<16)),
		{Kind: api.Atom, N: 1}, {Kind: api.Nonce, S: "s"}, {Kind: api.Hash, N: 1, Kids: []api.Term{nonce(1)}},
		of(api.Atom, nonce(1)), of(api.Nonce, nonce(1)), of(api.Hash), of(api.Hash, nonce(1), nonce(1)), of(api.Mac, nonce(1)), of(api.Pair, nonce(1), nonce(1), nonce(1)),
		of(api.Pair, nonce(1), nonce(-1)), of(api.Pair, api.Term{}, nonce(1)),
		tower(16, nonce(1)), tree(7), of(api.Pair, tree(6), nonce(1)), within[0], of(api.Atom, within...),
	}
}

// P201, P1: of what is no term nothing is put.
func TestPutNoTerm(t *testing.T) {
	for i, x := range noTerms() {
		if got := code.Put(x); len(got) != 0 {
			t.Errorf("Put of what is no term, number %d: %d bytes", i, len(got))
		}
	}
}

// P202: what may stand at the front, and what must not, each error ahead of those that come behind it.
func TestTakeErrors(t *testing.T) {
	full := code.Put(of(api.Pair, tree(5), of(api.Pub, tree(5)))) // 64 nodes
	over := join([]byte{7}, code.Put(tree(6)))                    // 64 nodes, and one that would be read
	deep := fill(3, 15)
	cases := []struct {
		b []byte
		e api.Errno
	}{
		{nil, api.ErrShort}, {[]byte{}, api.ErrShort},
		{[]byte{0}, api.ErrKind}, {[]byte{8}, api.ErrKind}, {[]byte{128}, api.ErrKind}, {[]byte{255}, api.ErrKind},
		{[]byte{0, 1, 0, 0}, api.ErrKind}, {[]byte{8, 1, 0, 0, 1, 0, 0}, api.ErrKind},
		{[]byte{1}, api.ErrShort}, {[]byte{1, 255}, api.ErrShort}, {[]byte{1, 0, 1}, api.ErrShort}, {[]byte{1, 1, 0, 'a'}, api.ErrShort},
		{[]byte{1, 4, 1}, api.ErrForm}, {[]byte{1, 255, 255}, api.ErrForm}, {join([]byte{1, 4, 1}, fill('x', 1025)), api.ErrForm},
		{[]byte{1, 4, 0}, api.ErrShort}, {join([]byte{1, 4, 0}, fill('x', 1023)), api.ErrShort}, {join([]byte{1, 4, 0}, fill('x', 1024)), api.OK},
		{[]byte{2}, api.ErrShort}, {[]byte{2, 255, 255, 255}, api.ErrShort}, {[]byte{2, 64, 0, 0, 0}, api.OK},
		{[]byte{2, 64, 0, 0, 1}, api.ErrForm}, {[]byte{2, 64, 1, 0, 0}, api.ErrForm}, {[]byte{2, 128, 0, 0, 0}, api.ErrForm}, {fill(255, 0), api.ErrShort}, {join([]byte{2}, fill(255, 4)), api.ErrForm},
		{[]byte{3}, api.ErrShort}, {[]byte{4}, api.ErrShort}, {[]byte{5}, api.ErrShort}, {[]byte{6}, api.ErrShort}, {[]byte{7}, api.ErrShort},
		{[]byte{5, 1, 0, 0}, api.ErrShort}, {[]byte{6, 1, 0, 0}, api.ErrShort}, {[]byte{7, 1, 0, 0}, api.ErrShort},
		{[]byte{7, 0, 1, 4, 1}, api.ErrKind}, {[]byte{7, 1, 4, 1, 0}, api.ErrForm}, {[]byte{7, 1, 0, 0, 9}, api.ErrKind}, {[]byte{7, 9, 1}, api.ErrKind}, {[]byte{7, 1, 0, 0, 2, 64, 0, 0, 1}, api.ErrForm},
		{deep, api.ErrShort}, {join(deep, []byte{0}), api.ErrKind}, {join(deep, []byte{1, 4, 1}), api.ErrForm}, {join(deep, []byte{1, 0, 0}), api.OK}, {join(deep, []byte{2, 0, 0, 0, 1}), api.OK},
		{fill(3, 16), api.ErrBig}, {fill(4, 16), api.ErrBig}, {fill(5, 16), api.ErrBig}, {fill(6, 16), api.ErrBig}, {fill(7, 16), api.ErrBig},
		{join(fill(3, 16), []byte{0}), api.ErrBig}, {join(fill(3, 16), []byte{1, 4, 1}), api.ErrBig}, {join(fill(3, 16), []byte{1, 0, 0}), api.ErrBig}, {fill(3, 1<<16), api.ErrBig}, {fill(7, 1<<16), api.ErrBig},
		{full, api.OK}, {full[:len(full)-1], api.ErrShort},
		{over, api.ErrBig}, {join(over, []byte{0}), api.ErrBig}, {join(over, []byte{1, 0, 0}), api.ErrBig}, {over[:len(over)-1], api.ErrShort}, {join(over[:len(over)-4], []byte{0}), api.ErrKind}, {join(over[:len(over)-4], []byte{7}), api.ErrBig},
	}
	for i, c := range cases {
		got, n, e := code.Take(c.b)
		if e != c.e || e != api.OK && (n != 0 || !alike(got, api.Term{})) {
			t.Errorf("Take of number %d: %#v, %d, %v, not %v", i, got, n, e, c.e)
		}
		got, e = code.One(c.b)
		if e != c.e || e != api.OK && !alike(got, api.Term{}) {
			t.Errorf("One of number %d: %#v, %v, not %v", i, got, e, c.e)
		}
	}
}

// P202: One asks whether bytes are left behind Take's own errors.
func TestOneMore(t *testing.T) {
	for i, c := range pairs() {
		for _, behind := range [][]byte{{0}, {1}, {1, 0, 0}, c.b, fill(255, 4096)} {
			if got, e := code.One(join(c.b, behind)); e != api.ErrMore || !alike(got, api.Term{}) {
				t.Errorf("One of number %d with %d bytes behind: %#v, %v", i, len(behind), got, e)
			}
		}
	}
	if _, e := code.One([]byte{2, 64, 0, 0, 1, 0}); e != api.ErrForm {
		t.Errorf("One of a Nonce too great with more behind: %v", e)
	}
}

// P203: what is put is taken, whatever stands behind.
func TestPutIsTaken(t *testing.T) {
	kids := []api.Term{atom(""), atom("b"), atom("\x01\x00\x00"), nonce(0), nonce(api.MaxNonce), of(api.Pub, nonce(7)), of(api.Pair, nonce(0), atom("\xff"))}
	all := []api.Term{tree(6), of(api.Hash, tree(6)), tower(15, atom("")), chain(15), {Kind: api.Atom, S: "a", Kids: []api.Term{}}}
	for _, x := range kids {
		all = append(all, x, of(api.Hash, x), of(api.Pub, x))
		for _, y := range kids {
			all = append(all, of(api.Mac, x, y), of(api.Sig, x, y), of(api.Pair, x, y))
		}
	}
	for i, x := range all {
		put := code.Put(x)
		for _, behind := range [][]byte{nil, {0}, {1, 4, 1}, {7}, fill(3, 99), put} {
			if got, n, e := code.Take(join(put, behind)); e != api.OK || n != len(put) || !term.Same(got, x) {
				t.Errorf("number %d with %d bytes behind: %d of %d, %v", i, len(behind), n, len(put), e)
			}
		}
		if got, e := code.One(put); e != api.OK || !term.Same(got, x) {
			t.Errorf("number %d: %v", i, e)
		}
	}
}

// reckon takes in another way: by a list of how deep the nodes that lack still stand, and the nodes in a row.
func reckon(b []byte) (nodes []api.Term, size int, e api.Errno) {
	at, lack := 0, []int{1}
	for len(lack) > 0 {
		deep := lack[len(lack)-1]
		lack = lack[:len(lack)-1]
		if len(nodes) == 64 || deep == 17 {
			return nil, 0, api.ErrBig
		}
		if at == len(b) {
			return nil, 0, api.ErrShort
		}
		node := api.Term{Kind: int(b[at])}
		at++
		switch {
		case node.Kind == 0 || node.Kind > 7:
			return nil, 0, api.ErrKind
		case node.Kind == 1:
			if at+2 > len(b) {
				return nil, 0, api.ErrShort
			}
			long := int(binary.BigEndian.Uint16(b[at:]))
			if long > 1024 {
				return nil, 0, api.ErrForm
			}
			if at+2+long > len(b) {
				return nil, 0, api.ErrShort
			}
			node.S = string(b[at+2 : at+2+long])
			at += 2 + long
		case node.Kind == 2:
			if at+4 > len(b) {
				return nil, 0, api.ErrShort
			}
			node.N = int(binary.BigEndian.Uint32(b[at:]))
			if node.N > 1<<30 {
				return nil, 0, api.ErrForm
			}
			at += 4
		case node.Kind < 5:
			lack = append(lack, deep+1)
		default:
			lack = append(lack, deep+1, deep+1)
		}
		nodes = append(nodes, node)
	}
	return nodes, at, api.OK
}

// flat lists the nodes of a term, a node ahead of its Kids, each without its Kids.
func flat(t api.Term) []api.Term {
	l := []api.Term{{Kind: t.Kind, N: t.N, S: t.S}}
	for _, kid := range t.Kids {
		l = append(l, flat(kid)...)
	}
	return l
}

// hold holds Take and One of b against what is reckoned, and against Put; it answers the error.
func hold(t *testing.T, b []byte) api.Errno {
	t.Helper()
	nodes, size, want := reckon(b)
	got, n, e := code.Take(b)
	if e != want || n != size {
		t.Fatalf("Take of %.99x: %d, %v; reckoned %d, %v", b, n, e, size, want)
	}
	whole, f := code.One(b)
	if e != api.OK {
		if !alike(got, api.Term{}) || !alike(whole, api.Term{}) || f != e {
			t.Fatalf("Take and One of %.99x: %#v and %#v beside %v and %v", b, got, whole, e, f)
		}
		return e
	}
	if !term.May(got) || !slices.EqualFunc(flat(got), nodes, alike) || !bytes.Equal(code.Put(got), b[:n]) {
		t.Fatalf("Take of %.99x: %#v", b, got)
	}
	if n == len(b) && (f != api.OK || !alike(whole, got)) || n < len(b) && (f != api.ErrMore || !alike(whole, api.Term{})) {
		t.Fatalf("One of %.99x: %#v, %v", b, whole, f)
	}
	return f
}

// P202, P203: all short bytes of a few values; bytes that are one term are just its Put.
func TestAllShort(t *testing.T) {
	met := map[api.Errno]bool{}
	var grow func(b []byte)
	grow = func(b []byte) {
		met[hold(t, b)] = true
		if len(b) == 7 {
			return
		}
		for _, x := range []byte{0, 1, 2, 3, 5, 64} {
			grow(append(b, x))
		}
	}
	grow(make([]byte, 0, 7))
	for _, e := range []api.Errno{api.OK, api.ErrShort, api.ErrKind, api.ErrForm, api.ErrMore} {
		if !met[e] {
			t.Errorf("%v was never met", e)
		}
	}
}

// P202, P203: bytes that were drawn, near to terms and far from them.
func TestDrawn(t *testing.T) {
	met := map[api.Errno]int{}
	draw := rand.New(rand.NewSource(2))
	for range 60000 {
		b := fill(byte(3+draw.Intn(5)), draw.Intn(17))
		for range draw.Intn(90) {
			switch draw.Intn(9) {
			case 0, 1, 2:
				b = append(b, 1, 0, 0)
			case 3:
				b = append(b, 2, byte(draw.Intn(65)), 0, 0, byte(draw.Intn(2)))
			case 4, 5:
				b = append(b, byte(3+draw.Intn(2)))
			default:
				b = append(b, byte(5+draw.Intn(3)))
			}
		}
		if len(b) > 0 && draw.Intn(4) == 0 {
			b[draw.Intn(len(b))] = byte(draw.Intn(256))
		}
		met[hold(t, b)]++
	}
	for _, e := range []api.Errno{api.OK, api.ErrShort, api.ErrKind, api.ErrForm, api.ErrBig, api.ErrMore} {
		if met[e] < 100 {
			t.Errorf("%v was met %d times", e, met[e])
		}
	}
}

// P1: of any bytes each call ends.
func TestAnyBytes(t *testing.T) {
	for first := range 256 {
		for second := range 256 {
			hold(t, []byte{byte(first), byte(second)})
			hold(t, join([]byte{byte(first)}, fill(byte(second), 5000)))
		}
	}
	hold(t, fill(7, 1<<20))
	hold(t, make([]byte, 1<<20))
}

// P2: bytes that are handed in, and their spare room, are not changed, and an answer does not hang on them later.
func TestBytesStay(t *testing.T) {
	want := of(api.Sig, nonce(258), of(api.Pair, atom("left"), atom("right")))
	whole := join(code.Put(want), fill(170, 40))
	before := bytes.Clone(whole)
	b := whole[:len(whole)-40]
	taken, _, e := code.Take(b)
	one, f := code.One(b)
	if e != api.OK || f != api.OK || !bytes.Equal(whole, before) {
		t.Error("bytes that were handed in were changed")
	}
	clear(whole)
	if !alike(taken, want) || !alike(one, want) {
		t.Error("an answer changed with the bytes that were handed in")
	}
}

// P2: a term that is handed in, and its spare room, is not changed; what was put does not hang on it later, nor on another answer.
func TestTermStays(t *testing.T) {
	kids := []api.Term{nonce(1), atom("a"), nonce(77), nonce(78)}
	x := api.Term{Kind: api.Pair, Kids: kids[:2]}
	put := code.Put(x)
	want := []byte{7, 2, 0, 0, 0, 1, 1, 0, 1, 'a'}
	again := code.Put(x)
	clear(again[:cap(again)])
	if !alike(of(0, kids...), of(0, nonce(1), atom("a"), nonce(77), nonce(78))) {
		t.Error("what was handed in was changed")
	}
	clear(kids)
	if !bytes.Equal(put, want) {
		t.Errorf("what was put changed: %v", put)
	}
}

// lists hands visit each list of Kids of t.
func lists(t *api.Term, visit func(*api.Term)) {
	visit(t)
	for i := range t.Kids {
		lists(&t.Kids[i], visit)
	}
}

// P2: no two lists of one answer, nor of two, share memory, spare room too.
func TestAnswersAreNew(t *testing.T) {
	b := code.Put(of(api.Pair, tree(5), tree(5)))
	a, _, _ := code.Take(b)
	c, _ := code.One(b)
	owner := map[*api.Term]*api.Term{}
	own := func(x *api.Term) {
		room := x.Kids[:cap(x.Kids)]
		for i := range room {
			if owner[&room[i]] != nil {
				t.Error("two lists share memory")
			}
			owner[&room[i]] = x
		}
	}
	lists(&a, own)
	lists(&c, own)
	if len(owner) < 2*62 {
		t.Errorf("%d Kids", len(owner))
	}
}

// P3
func TestSameAnswers(t *testing.T) {
	b := code.Put(tree(6))
	a, n, e := code.Take(b)
	code.Take([]byte{7, 7, 1, 0})
	c, m, f := code.Take(b)
	if !alike(a, c) || n != m || e != f || !bytes.Equal(b, code.Put(tree(6))) {
		t.Error("the same calls answered otherwise")
	}
}
