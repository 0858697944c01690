package mark_test

import (
	"encoding/base64"
	"fmt"
	"math"
	"math/rand"
	"regexp"
	"slices"
	"strings"
	"testing"
	"unsafe"

	"countersign/api"
	"countersign/code"
	"countersign/mark"
	"countersign/term"
)

func atom(s string) api.Term { return api.Term{Kind: api.Atom, S: s} }

func nonce(n int) api.Term { return api.Term{Kind: api.Nonce, N: n} }

func of(kind int, kids ...api.Term) api.Term { return api.Term{Kind: kind, Kids: kids} }

// tower is t below so many Hashes.
func tower(n int, t api.Term) api.Term {
	for range n {
		t = of(api.Hash, t)
	}
	return t
}

// tree is a full tree of Pairs, so deep: 2^deep - 1 nodes.
func tree(deep int) api.Term {
	if deep == 1 {
		return atom("x")
	}
	return of(api.Pair, tree(deep-1), tree(deep-1))
}

// alike says whether all of a and b is the same, of no terms, too.
func alike(a, b api.Term) bool {
	return a.Kind == b.Kind && a.N == b.N && a.S == b.S && slices.EqualFunc(a.Kids, b.Kids, alike)
}

// signed writes bytes by signs, by the library.
func signed(s string) string { return base64.RawURLEncoding.EncodeToString([]byte(s)) }

// unsigned reads signs, by the library: strict on the bits that lack, and with the ends of lines, which the library passes
// over, refused.
func unsigned(s string) (string, bool) {
	b, err := base64.RawURLEncoding.Strict().DecodeString(s)
	return string(b), err == nil && !strings.ContainsAny(s, "\r\n")
}

// text is Text as the document words it.
func text(t api.Term) string {
	b := code.Put(t)
	if b == nil {
		return ""
	}
	return "~" + signed(string(b)) + "~"
}

// read is Read by what may be written: what is between the edges is read, and its Text held against s.
func read(s string) (api.Term, bool) {
	if len(s) < 2 {
		return api.Term{}, false
	}
	b, _ := unsigned(s[1 : len(s)-1])
	t, _ := code.One([]byte(b))
	if s != text(t) {
		return api.Term{}, false
	}
	return t, true
}

// stand lists the terms whose marks stand in s: each piece of s is tried.
func stand(s string) []api.Term {
	var l []api.Term
	for i := range len(s) {
		if s[i] != '~' {
			continue
		}
		for j := i + 1; j < len(s); j++ {
			if s[j] != '~' {
				continue
			}
			if t, is := read(s[i : j+1]); is {
				l = append(l, t)
			}
		}
	}
	return l
}

var run = regexp.MustCompile("[-A-Za-z0-9_]+")

// find is Find as the document words it.
func find(s string) []api.Term {
	l := stand(s)
	for _, r := range run.FindAllString(s, -1) {
		if b, is := unsigned(r); is {
			l = append(l, stand(b)...)
		}
	}
	return term.Sort(l)
}

// shown tells terms in short.
func shown(l []api.Term) string {
	var all []string
	for _, x := range l {
		all = append(all, text(x))
	}
	return fmt.Sprintf("%d (%.200s)", len(l), strings.Join(all, " "))
}

// finds asks that of s just those terms are found, in that order.
func finds(t *testing.T, s string, want ...api.Term) {
	t.Helper()
	if got := mark.Find(s); !slices.EqualFunc(got, want, alike) {
		t.Errorf("Find(%.200q): %s, not %s", s, shown(got), shown(want))
	}
}

// noMark asks that s is the mark of no term.
func noMark(t *testing.T, s string) {
	t.Helper()
	if got, is := mark.Read(s); is || !alike(got, api.Term{}) {
		t.Errorf("Read(%.200q): %v, %v", s, got, is)
	}
	if n, is := mark.Number(s); is || n != 0 {
		t.Errorf("Number(%.200q): %d, %v", s, n, is)
	}
}

// pairs are terms with their marks, written out by hand.
func pairs() []struct {
	t api.Term
	s string
} {
	return []struct {
		t api.Term
		s string
	}{
		{atom(""), "~AQAA~"},
		{atom("\x00"), "~AQABAA~"},
		{atom("ab"), "~AQACYWI~"},
		{atom("\xff\xff"), "~AQAC__8~"},
		{atom("\xfb\xff\xbe"), "~AQAD-_--~"},
		{atom("~~"), "~AQACfn4~"},
		{nonce(0), "~AgAAAAA~"},
		{nonce(1), "~AgAAAAE~"},
		{nonce(258), "~AgAAAQI~"},
		{nonce(api.MaxNonce - 1), "~Aj____8~"},
		{nonce(api.MaxNonce), "~AkAAAAA~"},
		{of(api.Hash, nonce(1)), "~AwIAAAAB~"},
		{of(api.Pub, nonce(5)), "~BAIAAAAF~"},
		{of(api.Mac, nonce(1), atom("")), "~BQIAAAABAQAA~"},
		{of(api.Sig, nonce(1), atom("m")), "~BgIAAAABAQABbQ~"},
		{of(api.Pair, atom("l"), atom("r")), "~BwEAAWwBAAFy~"},
	}
}

// terms are ordinary ones of each Kind, and those at the bounds.
func terms() []api.Term {
	long := strings.Repeat("\xff", api.MaxAtom)
	kids := []api.Term{atom(""), atom("~"), atom(mark.Key(3)), atom("~AgAAAAE"), nonce(0), nonce(63), nonce(api.MaxNonce), of(api.Pub, nonce(7)), of(api.Pair, nonce(0), atom("\xff"))}
	all := []api.Term{tree(6), of(api.Hash, tree(6)), tower(15, atom("")), atom(long), atom(long[1:]), of(api.Pair, atom(long), atom(long)), {Kind: api.Atom, S: "a", Kids: []api.Term{}}}
	for _, x := range kids {
		all = append(all, x, of(api.Hash, x), of(api.Pub, x))
		for _, y := range kids {
			all = append(all, of(api.Mac, x, y), of(api.Sig, x, y), of(api.Pair, x, y))
		}
	}
	return all
}

// noTerms are not allowed by term.May, for each reason that there is.
func noTerms() []api.Term {
	within := []api.Term{{Kind: api.Pair}, {Kind: api.Pair}}
	within[0].Kids, within[1].Kids = within, within
	return []api.Term{
		{}, {Kind: 8}, {Kind: -1}, {Kind: 257, S: "a"}, {Kind: math.MinInt}, {Kind: math.MaxInt, Kids: within},
		nonce(-1), nonce(api.MaxNonce + 1), nonce(1<<32 + 1), nonce(math.MinInt),
		atom(strings.Repeat("x", 1025)), {Kind: api.Atom, N: 1}, {Kind: api.Nonce, S: "s"}, {Kind: api.Hash, N: 1, Kids: []api.Term{nonce(1)}},
		of(api.Atom, nonce(1)), of(api.Nonce, nonce(1)), of(api.Hash), of(api.Mac, nonce(1)), of(api.Pair, nonce(1), nonce(1), nonce(1)),
		of(api.Pair, nonce(1), nonce(-1)), of(api.Pair, api.Term{}, nonce(1)),
		tower(16, nonce(1)), tree(7), of(api.Pair, tree(6), nonce(1)), within[0], of(api.Atom, within...),
	}
}

func TestExamples(t *testing.T) {
	finds(t, mark.Key(1)+"x"+mark.Key(2), nonce(1), nonce(2))
	noMark(t, "~~")
}

// P901: what is written out by hand, both ways.
func TestByHand(t *testing.T) {
	for _, c := range pairs() {
		if got := mark.Text(c.t); got != c.s {
			t.Errorf("Text of %v: %q, not %q", c.t, got, c.s)
		}
		if got, is := mark.Read(c.s); !is || !alike(got, c.t) {
			t.Errorf("Read(%q): %v, %v", c.s, got, is)
		}
		n, is := mark.Number(c.s)
		if want := c.t.Kind == api.Nonce; is != want || n != c.t.N {
			t.Errorf("Number(%q): %d, %v", c.s, n, is)
		}
	}
}

// P901: every term is written as the document words it, and read again.
func TestThereAndBack(t *testing.T) {
	for _, x := range terms() {
		s := mark.Text(x)
		if s != text(x) {
			t.Errorf("Text of %v: %q", x, s)
		}
		if got, is := mark.Read(s); !is || !alike(got, x) {
			t.Errorf("Read of the mark of %v: %v, %v", x, got, is)
		}
		n, is := mark.Number(s)
		if is != (x.Kind == api.Nonce) || n != x.N {
			t.Errorf("Number of the mark of %v: %d, %v", x, n, is)
		}
	}
}

// P901, P1: what is no term has no mark, and no mark is its own.
func TestNoTerm(t *testing.T) {
	for i, x := range noTerms() {
		if got := mark.Text(x); got != "" {
			t.Errorf("Text of what is no term, number %d: %q", i, got)
		}
	}
	noMark(t, "")
}

// P901: Key is the Text of a Nonce, also where there is no such Nonce, and Number its way back.
func TestKey(t *testing.T) {
	numbers := []int{0, 1, 13, 255, 256, 1 << 16, 1<<24 - 1, 1 << 24, api.MaxNonce - 1, api.MaxNonce}
	for n := range 1000 {
		numbers = append(numbers, n, n*n*n)
	}
	for _, n := range numbers {
		s := mark.Key(n)
		if s != text(nonce(n)) {
			t.Errorf("Key(%d): %q", n, s)
		}
		if got, is := mark.Number(s); !is || got != n {
			t.Errorf("Number(%q): %d, %v", s, got, is)
		}
	}
	for _, n := range []int{-1, math.MinInt, api.MaxNonce + 1, math.MaxInt, 1 << 32, 1<<32 + 1} {
		if got := mark.Key(n); got != "" {
			t.Errorf("Key(%d): %q", n, got)
		}
	}
}

// P901: wrong inputs, each no mark though some are near to one.
func TestReadRefuses(t *testing.T) {
	for _, s := range []string{
		"", "~", "~~", "~~~", "~~~~", "~AgAAAAE", "AgAAAAE~", "AgAAAAE", "~AgAAAAE~~", "~~AgAAAAE~", "~~AgAAAAE~~",
		" ~AgAAAAE~", "~AgAAAAE~ ", "~ AgAAAAE~", "~AgAAAAE ~", "~AgAA AAE~", "~AgAAAAE~\n", "~AgAAAAE\n~", "~AgAAAAE=~", "~AgAAAAE~x", "x~AgAAAAE~",
		"~AgAAAAE~AgAAAAE~", "~AgAAAAE~~AgAAAAE~", "-AgAAAAE-", "_AgAAAAE_", "=AgAAAAE=", "\x7eAgAAAAE\x7f", "\xffAgAAAAE\xff",
		"~A~", "~AgAAAAF~", "~AgAAAAEA~", "~AgAAAA~", "~AgAAAAEAA~", "~Ag~", "~Aj____9~", "~Aj//__8~", "~AQAC//8~", "~AQAD+/++~",
		"~AkAAAAE~", "~Av____8~", "~AAAA~", "~AA~", "~CAAA~", "~_wAA~", "~AQAB~", "~AQQB~", "~AQAAAA~", "~AwA~", "~BwEAAA~", "~BwEAAAEAAAEAAA~",
		"~" + signed(strings.Repeat("\x03", 16)+"\x01\x00\x00") + "~", "~" + signed("\x07"+string(code.Put(tree(6)))) + "~",
		"~" + signed("\x07"+string(code.Put(tree(6)))+"\x01\x00\x00") + "~", "~" + signed("\x01\x04\x01"+strings.Repeat("x", 1025)) + "~",
		"AQAA", "~AQAA~\x00", "\x00~AQAA~", "~AQAA\xff~", "~\u00e9~", "~AQAA\u00e9~", "%7EAQAA%7E",
	} {
		noMark(t, s)
	}
}

// P901: of a mark with a byte changed, lost or brought in only what Text writes is read.
func TestReadNearMarks(t *testing.T) {
	r := rand.New(rand.NewSource(9))
	taken, refused := 0, 0
	try := func(s string) {
		want, is := read(s)
		got, was := mark.Read(s)
		if was != is || !alike(got, want) {
			t.Errorf("Read(%q): %v, %v, not %v, %v", s, got, was, want, is)
		}
		if n, is := mark.Number(s); is != (want.Kind == api.Nonce) || n != want.N {
			t.Errorf("Number(%q): %d, %v", s, n, is)
		}
		if is {
			taken++
		} else {
			refused++
		}
	}
	const some = "~AEIQgwzBCD-_=\n\xff"
	for _, c := range pairs() {
		for i := range len(c.s) + 1 {
			try(c.s[:i] + c.s[min(i+1, len(c.s)):])
			for _, b := range []byte(some) {
				try(c.s[:i] + string([]byte{b}) + c.s[i:])
				try(c.s[:i] + string([]byte{b}) + c.s[min(i+1, len(c.s)):])
			}
			try(c.s[:i] + string([]byte{byte(r.Intn(256))}) + c.s[i:])
		}
	}
	if taken < 100 || refused < 1000 {
		t.Errorf("%d taken, %d refused", taken, refused)
	}
}

// P902: marks in s itself, in order, each once, alone, beside each other and with one edge in common.
func TestFind(t *testing.T) {
	one, two := mark.Key(1), mark.Key(2)
	hash := of(api.Hash, nonce(5))
	h := mark.Text(hash)
	finds(t, "")
	finds(t, "~")
	finds(t, "~~")
	finds(t, "nothing, and ~nothing~ else~")
	finds(t, "~AgAAAAE")
	finds(t, "AgAAAAE~")
	finds(t, "AgAAAAE")
	finds(t, one, nonce(1))
	finds(t, two+one, nonce(1), nonce(2))
	finds(t, two+"~"+one, nonce(1), nonce(2))
	finds(t, h+"x"+one+"y"+h+two+one, nonce(1), nonce(2), hash)
	finds(t, "~AgAAAAE~AgAAAAI~", nonce(1), nonce(2))
	finds(t, "~AgAAAAE~AgAAAAE~AgAAAAE~", nonce(1))
	finds(t, "~AgAAAAI~x~AgAAAAE~", nonce(1), nonce(2))
	finds(t, "~AgAAAAE~AgAAAAF~AgAAAAI~", nonce(1), nonce(2))
	finds(t, "~AgAAAAE~AQAC~", nonce(1))
	finds(t, "~AgAA~AAE~")
	finds(t, "~x~AgAAAAE")
	finds(t, "AgAAAAE~x~")
	finds(t, "AgAAAAE~AgAAAAI~AgAAAAM", nonce(2))
	finds(t, one[:len(one)-1]+h, nonce(1), hash)
	finds(t, "\xff"+one+"\x80\x00"+two+"\u00e9", nonce(1), nonce(2))
	finds(t, "{\"a\":\""+one+"\",\"b\":["+h+"]}", nonce(1), hash)
}

// P902: marks in what a run of signs is read as, whatever parts the runs.
func TestFindInside(t *testing.T) {
	one, two := signed("{"+mark.Key(1)+"}"), signed(mark.Key(2))
	finds(t, one, nonce(1))
	finds(t, two, nonce(2))
	finds(t, signed("~AgAAAAE~AgAAAAI~"), nonce(1), nonce(2))
	finds(t, signed("\x00"+mark.Key(4)+"\xff\xfe\u00e9"), nonce(4))
	finds(t, "e."+one+"."+mark.Key(9), nonce(1), nonce(9))
	finds(t, two+"."+one+"."+two, nonce(1), nonce(2))
	finds(t, mark.Key(2)+signed(mark.Key(1)+mark.Key(2)), nonce(1), nonce(2))
	for c := range 256 {
		sep := string([]byte{byte(c)})
		if run.MatchString(sep) {
			continue
		}
		finds(t, one+sep+two, nonce(1), nonce(2))
		finds(t, sep+one+sep+sep+two+sep, nonce(1), nonce(2))
	}
	for _, sep := range []string{"\u00e9", "\u0661", "\uff21", "\u212a", "\u017f", "\U0001f600", "\ufffd", "\r\n", "=="} {
		finds(t, one+sep+two, nonce(1), nonce(2))
	}
	finds(t, one+"%2E"+two, nonce(1))
}

// P902: it is a longest run that is read, each of them and no piece of one.
func TestFindLongestRuns(t *testing.T) {
	in := signed("{" + mark.Key(1) + "}")
	for _, c := range "AZaz09-_" {
		sign := string(c)
		finds(t, sign+in)
		finds(t, sign+sign+in)
		finds(t, sign+sign+sign+in)
		finds(t, strings.Repeat(sign, 4)+in, nonce(1))
		finds(t, strings.Repeat(sign, 5)+in)
		finds(t, strings.Repeat(sign, 4)+"."+in, nonce(1))
	}
	finds(t, in+"."+strings.Repeat("A", 400), nonce(1))
	finds(t, strings.Repeat("A", 400)+"."+in, nonce(1))
	finds(t, in[:8]+"."+in[8:])
	finds(t, in[:8]+"="+in[8:])
	for _, bad := range []string{"A", "AB", "AAB", "AAAAA"} {
		finds(t, bad+"."+in+"."+bad, nonce(1))
	}
}

// P902: of a run that b64.Dec refuses nothing is found, though a front of it would be read.
func TestFindRefusedRuns(t *testing.T) {
	whole, two, three := signed("{"+mark.Key(1)+"} "), signed(mark.Key(1)+"}"), signed("{"+mark.Key(1)+"}")
	for _, in := range []string{whole, two, three} {
		finds(t, in, nonce(1))
	}
	for _, c := range "AZaz09-_" {
		finds(t, whole+string(c))
	}
	finds(t, two+"AAA")
	finds(t, three+"AA")
	finds(t, two[:len(two)-1]+"R")
	finds(t, two[:len(two)-1]+"_")
	finds(t, three[:len(three)-1]+"1")
	finds(t, three[:len(three)-1]+"_")
}

// P902: what is found in a run is not looked into again; a mark in s is such a run, and what it is read as is looked at.
func TestFindNotAgain(t *testing.T) {
	in := signed("{" + mark.Key(1) + "}")
	finds(t, signed(in))
	finds(t, signed(in+"."))
	finds(t, signed("."+in+"."+mark.Key(2)), nonce(2))
	finds(t, signed(in)+"."+in, nonce(1))
	inner := atom(mark.Key(3))
	finds(t, mark.Text(inner), inner, nonce(3))
	finds(t, signed(mark.Text(inner)), inner)
	finds(t, mark.Text(atom(mark.Text(inner))), atom(mark.Text(inner)), inner)
	finds(t, mark.Text(atom(in)), atom(in))
	finds(t, mark.Text(of(api.Sig, nonce(1), nonce(2))), of(api.Sig, nonce(1), nonce(2)))
}

// P902: texts drawn from pieces that make marks, runs, and what comes near to them.
func TestFindDrawn(t *testing.T) {
	r := rand.New(rand.NewSource(902))
	inner := atom(mark.Key(3))
	of := []string{
		"~", "~", "~", "AgAAAAE", "AgAAAAI", "AgAAAAF", "AQAA", "AwIAAAAB", ".", " ", "A", "AA", "-", "_", "=", "\xff", "\u00e9", "x~y",
		mark.Key(4), mark.Text(inner), signed(mark.Key(5)), signed("~AgAAAAY~AgAAAAc~"), signed("{" + mark.Key(8) + "}"), signed(signed(mark.Key(9)) + "."),
		signed(mark.Text(inner)), signed("~"), signed("~AgAA"),
	}
	some, none := 0, 0
	for range 20000 {
		var s strings.Builder
		for range r.Intn(12) {
			s.WriteString(of[r.Intn(len(of))])
		}
		want := find(s.String())
		finds(t, s.String(), want...)
		if len(want) > 0 {
			some++
		} else {
			none++
		}
	}
	if some < 5000 || none < 1000 {
		t.Errorf("%d with terms, %d without", some, none)
	}
}

// P902: each once, in order, of all marks in one text.
func TestFindOrder(t *testing.T) {
	all := terms()
	rand.New(rand.NewSource(1)).Shuffle(len(all), func(i, j int) { all[i], all[j] = all[j], all[i] })
	var s string
	for _, x := range append(all, all...) {
		s += text(x)
	}
	finds(t, s, find(s)...)
	got := mark.Find(s)
	for i := range len(got) - 1 {
		if !term.Less(got[i], got[i+1]) {
			t.Errorf("number %d is not ahead of the next one", i)
		}
	}
}

// P903: whatever stands ahead of a mark and behind, its term is found.
func TestFoundAnywhere(t *testing.T) {
	around := []string{"", "~", "~~", "x", "xyz", "~x", "x~", "~AgAAAAE", "AgAAAAE~", mark.Key(7), "\x00", "\xff", "\u00e9", "\xc3", ".", "=", "%", "\r\n", "AAAA", "{\"a\":\"", strings.Repeat("A~", 99), strings.Repeat("b", 999)}
	for _, x := range terms() {
		for _, ahead := range around {
			for _, behind := range around {
				s := ahead + text(x) + behind
				if !slices.ContainsFunc(mark.Find(s), func(f api.Term) bool { return alike(f, x) }) {
					t.Fatalf("between %q and %q a term is not found: %v", ahead, behind, x)
				}
			}
		}
	}
}

// P1: long texts of whatever bytes, and many marks; each call ends.
func TestLong(t *testing.T) {
	const n = 1 << 20
	for _, s := range []string{
		strings.Repeat("~", n), strings.Repeat("A", n), strings.Repeat("~A", n), strings.Repeat("A.", n), strings.Repeat("\xff", n),
		"~" + strings.Repeat("A", n) + "~", "~" + strings.Repeat("BwEA", n) + "~", "~" + signed(strings.Repeat("\x07", n)) + "~",
	} {
		noMark(t, s)
		finds(t, s)
		finds(t, s+"."+mark.Key(6)+"."+s, nonce(6))
	}
	finds(t, strings.Repeat("~AgAAAAE", 1<<17)+"~", nonce(1))
	var s strings.Builder
	var want []api.Term
	for i := range 20000 {
		s.WriteString(mark.Key(19999 - i))
		want = append(want, nonce(i))
	}
	finds(t, s.String(), want...)
	finds(t, signed(s.String()), want...)
}

// P1: of any short bytes each call ends, and answers as the document words it.
func TestAnyBytes(t *testing.T) {
	for a := range 256 {
		for b := range 256 {
			s := string([]byte{byte(a), byte(b)})
			for _, s := range []string{s, "~" + s + "~", s + "~AgAAAAE~" + s} {
				if got, is := mark.Read(s); is {
					t.Errorf("Read(%q): %v", s, got)
				}
				finds(t, s, find(s)...)
			}
		}
	}
}

// P2: a term that is handed in, and its spare room, is not changed, and its mark does not hang on it later.
func TestTermStays(t *testing.T) {
	kids := []api.Term{nonce(1), atom("a"), nonce(77), nonce(78)}
	s := mark.Text(api.Term{Kind: api.Pair, Kids: kids[:2]})
	want := "~" + signed("\x07\x02\x00\x00\x00\x01\x01\x00\x01a") + "~"
	if !alike(of(0, kids...), of(0, nonce(1), atom("a"), nonce(77), nonce(78))) {
		t.Error("what was handed in was changed")
	}
	clear(kids)
	if s != want {
		t.Errorf("the mark changed: %q", s)
	}
}

// own notes each place of each list of Kids of l, spare room too, and the bytes of the texts; a place that two lists have
// is an error.
func own(t *testing.T, l []api.Term, places map[*api.Term]bool, texts map[*byte]bool) {
	t.Helper()
	room := l[:cap(l)]
	for i := range room {
		if places[&room[i]] {
			t.Error("two lists share memory")
		}
		places[&room[i]] = true
	}
	for _, x := range room {
		if x.S != "" {
			texts[unsafe.StringData(x.S)] = true
		}
		own(t, x.Kids, places, texts)
	}
}

// P2: no two lists of one answer, nor of two, share memory, spare room too, and no text is kept.
func TestAnswersAreNew(t *testing.T) {
	b := []byte(mark.Text(tree(6)) + mark.Text(of(api.Pair, tree(5), tree(5))) + signed(mark.Text(tree(4))))
	s := unsafe.String(&b[0], len(b))
	places, texts := map[*api.Term]bool{}, map[*byte]bool{}
	first, second := mark.Find(s), mark.Find(s)
	read, is := mark.Read(mark.Text(tree(6)))
	if !is || len(first) != 2 {
		t.Errorf("%d found, %v", len(first), is)
	}
	want := mark.Find(strings.Clone(s))
	own(t, first, places, texts)
	own(t, second, places, texts)
	own(t, []api.Term{read}, places, texts)
	for i := range b {
		if texts[&b[i]] {
			t.Error("an answer shares the bytes that were handed in")
		}
	}
	clear(b)
	if !slices.EqualFunc(first, want, alike) || !slices.EqualFunc(second, want, alike) {
		t.Error("an answer changed with the text that was handed in")
	}
}

// P3
func TestSameAnswers(t *testing.T) {
	var s string
	for _, x := range terms() {
		s += text(x) + signed(text(x)) + "."
	}
	want := mark.Find(s)
	for range 20 {
		mark.Find("~AgAAAAE~")
		finds(t, s, want...)
	}
	if len(want) < 200 {
		t.Errorf("%d terms", len(want))
	}
}
