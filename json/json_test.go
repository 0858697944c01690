package json_test

import (
	"fmt"
	"math/big"
	"math/rand"
	"regexp"
	"slices"
	"strconv"
	"strings"
	"testing"
	"unicode/utf8"
	"unsafe"

	"countersign/api"
	"countersign/json"
)

var (
	numbers = regexp.MustCompile(`\A-?[0-9]+`)
	plainly = regexp.MustCompile(`\A(0|-?[1-9][0-9]*)\z`)
	texts   = regexp.MustCompile(`\A"([^"\\\x00-\x1f]|\\["\\]|\\u00[01][0-9a-f])*"`)
	escapes = regexp.MustCompile(`\\(["\\]|u....)`)
)

func null() api.Value { return api.Value{Kind: api.VNull} }

func truth(b bool) api.Value { return api.Value{Kind: api.VBool, B: b} }

func number(n int) api.Value { return api.Value{Kind: api.VInt, N: n} }

func words(s string) api.Value { return api.Value{Kind: api.VText, S: s} }

func list(l ...api.Value) api.Value { return api.Value{Kind: api.VList, Kids: l} }

func object(names []string, l ...api.Value) api.Value {
	return api.Value{Kind: api.VObj, Names: names, Kids: l}
}

// one makes a VObj of one Kid.
func one(name string, kid api.Value) api.Value { return object([]string{name}, kid) }

// valid is text.Valid as chapter 6 words it.
func valid(s string) bool { return utf8.ValidString(s) && !strings.Contains(s, "\ufffd") }

// may is May as the document words it, of v that stands deep.
func may(v api.Value, deep int) bool {
	alone := v.Kind == 2 || !v.B
	alone = alone && (v.Kind == 3 || v.N == 0) && (v.Kind == 4 || v.S == "")
	alone = alone && (v.Kind == 6 || len(v.Names) == 0) && (v.Kind >= 5 || len(v.Kids) == 0)
	if !alone || v.Kind < 1 || v.Kind > 6 || v.N > 1<<53 || v.N < -(1<<53) || !valid(v.S) {
		return false
	}
	if v.Kind >= 5 && deep > 8 || v.Kind == 6 && len(v.Names) != len(v.Kids) {
		return false
	}
	for i, name := range v.Names {
		if !valid(name) || slices.Contains(v.Names[:i], name) {
			return false
		}
	}
	return !slices.ContainsFunc(v.Kids, func(kid api.Value) bool { return !may(kid, deep+1) })
}

// same is Same as the document words it: an empty list is none.
func same(a, b api.Value) bool {
	return a.Kind == b.Kind && a.B == b.B && a.N == b.N && a.S == b.S && slices.Equal(a.Names, b.Names) && slices.EqualFunc(a.Kids, b.Kids, same)
}

// quoted is a text as the document words it.
func quoted(s string) string {
	w := `"`
	for i := range len(s) {
		switch c := s[i]; {
		case c < 32:
			w += fmt.Sprintf(`\u00%02x`, c)
		case c == '"' || c == '\\':
			w += `\` + s[i:i+1]
		default:
			w += s[i : i+1]
		}
	}
	return w + `"`
}

// print is Print as the document words it, of what may be; at most gap stands around each piece.
func print(v api.Value, gap func() string) string {
	w := ""
	put := func(s string) { w += gap() + s + gap() }
	switch v.Kind {
	case 1:
		put("null")
	case 2:
		put(fmt.Sprint(v.B))
	case 3:
		put(fmt.Sprint(v.N))
	case 4:
		put(quoted(v.S))
	case 5, 6:
		put("[ {"[v.Kind/6*2 : v.Kind/6*2+1])
		for i, kid := range v.Kids {
			if i > 0 {
				put(",")
			}
			if v.Kind == 6 {
				put(quoted(v.Names[i]))
				put(":")
			}
			w += print(kid, gap)
		}
		put("] }"[v.Kind/6*2 : v.Kind/6*2+1])
	}
	return w
}

func none() string { return "" }

// A reading is what Parse does, as the document words it.
type reading struct{ s string }

func (r *reading) skip() { r.s = strings.TrimLeft(r.s, "\x09\x0a\x0d\x20") }

// takes says whether one of the signs stands ahead, and goes behind it.
func (r *reading) takes(sign string) bool {
	r.skip()
	is := strings.HasPrefix(r.s, sign)
	if is {
		r.s = r.s[len(sign):]
	}
	return is
}

func (r *reading) text() (string, bool) {
	r.skip()
	raw := texts.FindString(r.s)
	if raw == "" || !valid(raw) {
		return "", false
	}
	r.s = r.s[len(raw):]
	return escapes.ReplaceAllStringFunc(raw[1:len(raw)-1], func(code string) string {
		if len(code) == 2 {
			return code[1:]
		}
		n, _ := strconv.ParseInt(code[2:], 16, 32)
		return string(rune(n))
	}), true
}

func (r *reading) value(deep int) (api.Value, api.Errno) {
	r.skip()
	if raw := numbers.FindString(r.s); raw != "" {
		r.s = r.s[len(raw):]
		n, _ := new(big.Int).SetString(raw, 10)
		if !plainly.MatchString(raw) || n.CmpAbs(big.NewInt(1<<53)) > 0 {
			return api.Value{}, api.ErrForm
		}
		return number(int(n.Int64())), api.OK
	}
	if s, is := r.text(); is {
		return words(s), api.OK
	}
	for s, v := range map[string]api.Value{"null": null(), "true": truth(true), "false": truth(false)} {
		if r.takes(s) {
			return v, api.OK
		}
	}
	for _, v := range []api.Value{list(), object(nil)} {
		if r.takes("[{"[v.Kind-5 : v.Kind-4]) {
			if deep > 8 {
				return api.Value{}, api.ErrBig
			}
			return r.kids(v, deep)
		}
	}
	return api.Value{}, api.ErrForm
}

func (r *reading) kids(v api.Value, deep int) (api.Value, api.Errno) {
	end := "]}"[v.Kind-5 : v.Kind-4]
	if r.takes(end) {
		return v, api.OK
	}
	for {
		if v.Kind == 6 {
			name, is := r.text()
			if !is {
				return api.Value{}, api.ErrForm
			}
			if slices.Contains(v.Names, name) {
				return api.Value{}, api.ErrTwice
			}
			v.Names = append(v.Names, name)
			if !r.takes(":") {
				return api.Value{}, api.ErrForm
			}
		}
		kid, e := r.value(deep + 1)
		if e != api.OK {
			return api.Value{}, e
		}
		v.Kids = append(v.Kids, kid)
		if r.takes(end) {
			return v, api.OK
		}
		if !r.takes(",") {
			return api.Value{}, api.ErrForm
		}
	}
}

// parse is Parse as the document words it.
func parse(s string) (api.Value, api.Errno) {
	r := reading{s}
	v, e := r.value(1)
	if e != api.OK {
		return v, e
	}
	if r.skip(); r.s != "" {
		return api.Value{}, api.ErrMore
	}
	return v, api.OK
}

func clip(s string) string {
	if len(s) > 80 {
		return fmt.Sprintf("%q.. (%d bytes)", s[:80], len(s))
	}
	return strconv.Quote(s)
}

func told(v api.Value) string {
	if len(v.Kids) > 20 {
		return fmt.Sprintf("a %d of %d Kids", v.Kind, len(v.Kids))
	}
	return clip(fmt.Sprintf("%+v", v))
}

// parses holds Parse of s against what it must answer.
func parses(t *testing.T, s string, want api.Value, fault api.Errno) {
	t.Helper()
	if got, e := json.Parse(s); e != fault || !same(got, want) {
		t.Errorf("Parse(%s): %s, %v, not %s, %v", clip(s), told(got), e, told(want), fault)
	}
}

func refuses(t *testing.T, s string, fault api.Errno) {
	t.Helper()
	parses(t, s, api.Value{}, fault)
}

// read holds Parse of s against the document's words. It answers Parse's error.
func read(t *testing.T, s string) api.Errno {
	t.Helper()
	v, fault := parse(s)
	parses(t, s, v, fault)
	return fault
}

// both holds the calls against v, which may be, and s, which it is printed.
func both(t *testing.T, v api.Value, s string) {
	t.Helper()
	if !json.May(v) {
		t.Errorf("May(%s): no", told(v))
	}
	if got := json.Print(v); got != s {
		t.Errorf("Print(%s): %s, not %s", told(v), clip(got), clip(s))
	}
	if !json.Same(v, v) {
		t.Errorf("Same(%s): no", told(v))
	}
	parses(t, s, v, api.OK)
}

func mayNot(t *testing.T, v api.Value) {
	t.Helper()
	if json.May(v) {
		t.Errorf("May(%s): yes", told(v))
	}
	if got := json.Print(v); got != "" {
		t.Errorf("Print(%s): %s, not nothing", told(v), clip(got))
	}
}

// asWorded holds the calls against v, whatever it is, as the document words them. It answers whether v may be.
func asWorded(t *testing.T, v api.Value) bool {
	t.Helper()
	if !may(v, 1) {
		mayNot(t, v)
		return false
	}
	both(t, v, print(v, none))
	return true
}

func TestExamples(t *testing.T) {
	parses(t, "{\"a\": 1}", one("a", number(1)), api.OK)
	refuses(t, "[1,]", api.ErrForm)
}

// P1201, P1202, P1203, P1204: by hand, both ways.
func TestByHand(t *testing.T) {
	for _, c := range []struct {
		s string
		v api.Value
	}{
		{`null`, null()},
		{`true`, truth(true)},
		{`false`, truth(false)},
		{`0`, number(0)},
		{`1`, number(1)},
		{`-1`, number(-1)},
		{`10`, number(10)},
		{`-9007199254740992`, number(-api.MaxInt)},
		{`""`, words("")},
		{`"null"`, words("null")},
		{`"a b"`, words("a b")},
		{`"\""`, words(`"`)},
		{`"\\"`, words(`\`)},
		{`"\\\""`, words(`\"`)},
		{`"\"\\"`, words(`"\`)},
		{`"\\u0000"`, words(`\u0000`)},
		{`"\u0000"`, words("\x00")},
		{`"\u0009\u000a\u000d "`, words("\t\n\r ")},
		{`"\u0010\u001f"`, words("\x10\x1f")},
		{"\"\x7f\u0080\u00e9\u20ac\U0001f600/'<>&\u2028\"", words("\x7f\u0080\u00e9\u20ac\U0001f600/'<>&\u2028")},
		{`"[1,]"`, words("[1,]")},
		{`[]`, list()},
		{`[]`, api.Value{Kind: api.VList, Names: []string{}, Kids: []api.Value{}}},
		{`[null]`, list(null())},
		{`[1,2,3]`, list(number(1), number(2), number(3))},
		{`[1,1]`, list(number(1), number(1))},
		{`[[],{},""]`, list(list(), object(nil), words(""))},
		{`[true,false,null,-1,"x"]`, list(truth(true), truth(false), null(), number(-1), words("x"))},
		{`{}`, object(nil)},
		{`{}`, object([]string{}, []api.Value{}...)},
		{`{"":null}`, one("", null())},
		{`{"a":1}`, one("a", number(1))},
		{`{"b":1,"a":1}`, object([]string{"b", "a"}, number(1), number(1))},
		{`{"a":1,"A":2,"a ":3,"":4,"aa":5}`, object([]string{"a", "A", "a ", "", "aa"}, number(1), number(2), number(3), number(4), number(5))},
		{"{\"\\\"\":\"\\\\\",\"\\u0000\":\"\\u0001\",\"\u00e9\":\"\"}", object([]string{`"`, "\x00", "\u00e9"}, words(`\`), words("\x01"), words(""))},
		{`{"a":{"a":{"a":[{"a":1}]}}}`, one("a", one("a", one("a", list(one("a", number(1))))))},
		{`[{"a":1},{"a":1}]`, list(one("a", number(1)), one("a", number(1)))},
		{`{"iss":"https://as","aud":["c1"],"exp":900,"n":null}`, object([]string{"iss", "aud", "exp", "n"}, words("https://as"), list(words("c1")), number(900), null())},
	} {
		both(t, c.v, c.s)
		for _, gap := range []string{" ", "\t", "\n", "\r", "\r\n\t  "} {
			parses(t, print(c.v, func() string { return gap }), c.v, api.OK)
		}
	}
}

// P1201: each kind, of each number about them.
func TestKinds(t *testing.T) {
	is := 0
	for kind := -3; kind < 300; kind++ {
		if asWorded(t, api.Value{Kind: kind}) {
			is++
		}
		mayNot(t, api.Value{Kind: kind, B: true, N: 1, S: "a", Names: []string{"a"}, Kids: []api.Value{null()}})
	}
	for _, kind := range []int{-1 << 63, 1<<63 - 1, 1<<32 + 1, 257, -1} {
		mayNot(t, api.Value{Kind: kind})
	}
	if is != 6 {
		t.Errorf("%d kinds", is)
	}
}

// P1201: whatever a kind has not is zero: all that there is of each, together.
func TestAllElseZero(t *testing.T) {
	is := 0
	for kind := range 9 {
		for _, b := range []bool{false, true} {
			for _, n := range []int{0, 1, -1, 1 << 53, -1 << 53, 1<<53 + 1, -1<<53 - 1} {
				for _, s := range []string{"", "a", "\xff", "\ufffd"} {
					for _, names := range [][]string{nil, {"a"}, {""}, {"a", "b"}, {"a", "a"}, {"\xff"}} {
						for _, kids := range [][]api.Value{nil, {null()}, {{}}, {null(), null()}} {
							if asWorded(t, api.Value{Kind: kind, B: b, N: n, S: s, Names: names, Kids: kids}) {
								is++
							}
						}
					}
				}
			}
		}
	}
	if want := 1 + 2 + 5 + 2 + 3 + 4; is != want {
		t.Errorf("%d may be, not %d", is, want)
	}
}

// P1201: a fault at each place within.
func TestFaultWithin(t *testing.T) {
	for _, bad := range []api.Value{{}, {Kind: 7}, {Kind: api.VNull, S: "a"}, {Kind: api.VBool, N: 1}, number(1<<53 + 1), words("\xff"), words("a\ufffd"), one("\xff", null()), one("\ufffd", null()), object([]string{"a", "a"}, null(), null()), object([]string{"a"}), object(nil, null()), {Kind: api.VList, Names: []string{"a"}, Kids: []api.Value{null()}}, {Kind: api.VObj, N: 1}, {Kind: api.VList, B: true}, {Kind: api.VObj, S: "a"}} {
		for n := range 4 {
			kids := []api.Value{null(), number(1), words("a"), list()}
			kids[n] = bad
			mayNot(t, list(kids...))
			mayNot(t, object([]string{"a", "b", "c", "d"}, kids...))
			mayNot(t, list(null(), list(kids...)))
			mayNot(t, one("a", list(null(), one("b", list(kids...)))))
		}
		mayNot(t, bad)
		if json.Same(bad, null()) || json.Same(null(), bad) {
			t.Errorf("Same of %s: yes", told(bad))
		}
	}
}

// P1202, P1203: numbers about the edges, and texts that are almost numbers.
func TestNumbers(t *testing.T) {
	for _, mid := range []int{0, 10, 100, 1 << 31, 1 << 32, 1<<53 - 1, 1 << 53, -10, -1 << 31, -1 << 53} {
		for n := mid - 3; n <= mid+3; n++ {
			asWorded(t, number(n))
			read(t, strconv.Itoa(n))
			read(t, "["+strconv.Itoa(n)+"]")
		}
	}
	both(t, number(1<<53), "9007199254740992")
	for _, n := range []int{1<<53 + 1, -1<<53 - 1, 1 << 62, -1 << 62, 1<<63 - 1, -1 << 63} {
		mayNot(t, number(n))
		refuses(t, strconv.Itoa(n), api.ErrForm)
	}
	for _, s := range []string{"-", "-0", "00", "01", "-01", "000", "0000000000000000001", "--1", "-+1", "+1", "+", "+0", ".1", "-.1", "- 1", "-a", "-null", "9223372036854775808", "-9223372036854775809", "18446744073709551616", "18446744073709551617", "90071992547409920", "\u0661", "\uff11", "NaN", "Infinity", "-Infinity", "_1", "x1", "(1)", strings.Repeat("9", 1000), "-" + strings.Repeat("0", 1000), strings.Repeat("0", 1000) + "1", "1" + strings.Repeat("0", 1000)} {
		refuses(t, s, api.ErrForm)
		refuses(t, "["+s+"]", api.ErrForm)
		refuses(t, `{"a":`+s+`}`, api.ErrForm)
		refuses(t, s+" 1", api.ErrForm)
	}
	for _, s := range []string{"1.", "1.0", "1.5", "0.", "0.0", "1e1", "1E1", "0e0", "0x1", "0b1", "1_0", "1a", "1-", "1-1", "1+1", "-1-1", "1 1", "0 0", "0 1", "1,1", "1null", "1\"\"", "1\x00", "1\xff", "9007199254740992.0"} {
		refuses(t, s, api.ErrMore)
		if !strings.Contains(s, ",") {
			refuses(t, "["+s+"]", api.ErrForm)
			refuses(t, `{"a":`+s+`}`, api.ErrForm)
		}
	}
}

// P1202, P1203: each byte and each two bytes in a text, as they are, and behind a backslash.
func TestTexts(t *testing.T) {
	is := 0
	for a := range 256 {
		one := string([]byte{byte(a)})
		for _, s := range []string{one, "x" + one, one + "x", one + one} {
			asWorded(t, words(s))
			asWorded(t, object([]string{s, "y"}, words(s), null()))
			read(t, `"`+s+`"`)
			read(t, `{"`+s+`":0}`)
			read(t, `"\`+s+`"`)
			read(t, `"\\`+s+`"`)
			read(t, `"\"`+s+`"`)
		}
		for b := range 256 {
			two := string([]byte{byte(a), byte(b)})
			if asWorded(t, words(two)) {
				is++
			}
			read(t, `"`+two+`"`)
			read(t, `"\u00`+two+`"`)
		}
	}
	if want := 128*128 + 30*64; is != want {
		t.Errorf("%d texts of two bytes may be, not %d", is, want)
	}
}

// P1203: what stands behind `\u`.
func TestEscapes(t *testing.T) {
	const signs = "0123456789abcdefABCDEF"
	taken := 0
	for _, a := range signs {
		for _, b := range signs {
			for _, front := range []string{"00", "0", "01", "10", "ff", "00 ", "000", "", "+0", "0x", "U0", "D8"} {
				s := `"\u` + front + string(a) + string(b) + `"`
				if read(t, s) == api.OK {
					taken++
				}
				read(t, s[:len(s)-1])
				read(t, `{`+s+`:1}`)
				read(t, s[:len(s)-1]+`x\u0000"`)
			}
		}
	}
	if want := 2*16 + 16*22; taken != want { // of the fronts 00 and 000
		t.Errorf("%d are taken, not %d", taken, want)
	}
	for c := range 32 {
		parses(t, fmt.Sprintf(`"\u%04x"`, c), words(string(rune(c))), api.OK)
		parses(t, fmt.Sprintf(`"a\u%04xb\u%04x"`, c, c), words("a"+string(rune(c))+"b"+string(rune(c))), api.OK)
	}
	for c := 32; c < 0x10000; c++ {
		refuses(t, fmt.Sprintf(`"\u%04x"`, c), api.ErrForm)
	}
	for _, s := range []string{`"\u000A"`, `"\u001F"`, `"\U0000"`, `"\u"`, `"\u0"`, `"\u00"`, `"\u000"`, `"\u00 0"`, `"\u{0}"`, `"\u+000"`, `"\u-000"`, `"\u0_00"`, `"\u0x1f"`, `"\x00"`, `"\0"`, `"\00"`, `"\b"`, `"\f"`, `"\n"`, `"\r"`, `"\t"`, `"\/"`, `"\'"`, `"\ "`, `"\a"`, `"\u0022"`, `"\u005c"`, `"\u002f"`, `"\u007f"`, `"\ud83d\ude00"`, `"\"`, `"\\\"`, `"\u0000`, `"\u000`, `"\u00`, `"\u0`, `"\u`, `"\`, `"`, `"a`, `"\"a`, `"\\`, "\"\\\n\"", "\"\\\x00\"", "\"\\\xff\"", "\"\\\u00e9\""} {
		refuses(t, s, api.ErrForm)
		refuses(t, "["+s, api.ErrForm)
		refuses(t, "{"+s, api.ErrForm)
		refuses(t, "["+s+",[[[[[[[[[[[[", api.ErrForm)
	}
}

// P1201, P1203: a text that is no UTF-8, or has a U+FFFD, or runes at the edges.
func TestRunes(t *testing.T) {
	for _, s := range []string{"\u007f", "\u0080", "\u07ff", "\u0800", "\ud7ff", "\ue000", "\ufffc", "\ufffe", "\uffff", "\U00010000", "\U0010ffff", "\ufeff", "\u2028", "e\u0301"} {
		both(t, words(s), `"`+s+`"`)
		both(t, one(s, words(s+s)), `{"`+s+`":"`+s+s+`"}`)
		refuses(t, s, api.ErrForm)
		refuses(t, s+"1", api.ErrForm)
		refuses(t, "1"+s, api.ErrMore)
	}
	for _, s := range []string{"\ufffd", "a\ufffd", "\ufffda", "\x80", "\xbf", "\xc0\x80", "\xc1\xbf", "\xc2", "\xc3\"", "\xe0\x80\x80", "\xe2\x82", "\xed\xa0\x80", "\xf0\x80\x80\x80", "\xf4\x90\x80\x80", "\xf5", "\xff", "\xfe\xff", "\xe9", "a\xe9b"} {
		mayNot(t, words(s))
		mayNot(t, one(s, null()))
		refuses(t, `"`+s+`"`, api.ErrForm)
		refuses(t, `{"`+s+`":1}`, api.ErrForm)
		refuses(t, `["`+s+`"`, api.ErrForm)
		refuses(t, `"`+s+`" 1`, api.ErrForm)
	}
}

// opened is VLists and VObjs within each other, as the bits of mix say, n deep; and around what of them stands behind.
func opened(n, mix int, kid api.Value) (api.Value, string) {
	v, front := kid, ""
	for i := range n {
		if mix>>i&1 == 0 {
			v, front = list(v), "["+front
		} else {
			v, front = one("a", v), `{"a":`+front
		}
	}
	return v, front
}

// P1201, P1203: how deep they may stand, whichever they are.
func TestLevels(t *testing.T) {
	for n := range 12 {
		for mix := range 1 << n {
			for _, kid := range []api.Value{number(1), words("[{"), list(), object(nil)} {
				v, front := opened(n, mix, kid)
				s := print(v, none)
				more := 0
				if kid.Kind >= api.VList {
					more = 1
				}
				if n+more <= 8 {
					both(t, v, s)
					refuses(t, front, api.ErrForm)
					continue
				}
				mayNot(t, v)
				refuses(t, s, api.ErrBig)
				if n > 8 {
					refuses(t, front, api.ErrBig)
				}
			}
		}
	}
	eight := strings.Repeat("[", 8)
	for s, fault := range map[string]api.Errno{
		"[": api.ErrBig, "{": api.ErrBig, " [": api.ErrBig, "\n{": api.ErrBig, "[]": api.ErrBig, "{\"a\":1}": api.ErrBig, "1,[": api.ErrBig, "null , {": api.ErrBig, "\"\",[": api.ErrBig, "\"[\",[": api.ErrBig, "[x": api.ErrBig, "[\xff": api.ErrBig,
		"1[": api.ErrForm, ",[": api.ErrForm, "1,,[": api.ErrForm, "x[": api.ErrForm, "\"[": api.ErrForm, "\"\"[": api.ErrForm, ":[": api.ErrForm, "}[": api.ErrForm, "1": api.ErrForm, "1]": api.ErrForm, "]": api.ErrForm, "": api.ErrForm, "],[]": api.ErrForm, "],1[": api.ErrForm, "],[1,{}": api.ErrBig, "],[1],[[": api.ErrBig,
	} {
		refuses(t, eight+s, fault)
		refuses(t, strings.Repeat("[1,", 7)+"["+s, fault)
	}
	inObject := strings.Repeat("[", 7) + "{"
	for s, fault := range map[string]api.Errno{
		"\"a\":[": api.ErrBig, "\"a\":{": api.ErrBig, "\"a\" : {": api.ErrBig, "\"a\":1,\"b\":[": api.ErrBig, "\"a\":1,\"a\":[": api.ErrTwice,
		"[": api.ErrForm, "{": api.ErrForm, "\"a\"[": api.ErrForm, "\"a\"{": api.ErrForm, "\"a\":1,[": api.ErrForm, "\"a\":1[": api.ErrForm, "\"a\"": api.ErrForm, "\"a\":": api.ErrForm,
	} {
		refuses(t, inObject+s, fault)
	}
	both(t, list(slices.Repeat([]api.Value{list(list())}, 100)...), "["+strings.Repeat("[[]],", 99)+"[[]]]")
}

// P1201, P1203: no name twice, near and far, in one VObj.
func TestTwice(t *testing.T) {
	for _, s := range []string{
		`{"a":1,"a":2}`, `{"a":1,"a":1}`, `{"a":1,"a"`, `{"a":1,"a"x`, `{"a":1,"a",`, `{"a":1,"a"}`, `{"a":1,"a":`, `{"a":1,"a":[[[[[[[[[[`, `{"a":1,"a":2`, `{"a":1 , "a" : 2}`, `{"":1,"":1}`, `{"a":1,"b":2,"a":3}`, `{"a":1,"b":2,"c":3,"b"`, `{"\"":1,"\"":2}`, `{"\u0000":1,"\u0000":2}`, `{"a":{"b":1},"a":1}`, `[{"a":1,"a"]`, `{"b":{"a":1,"a":1}}`, `{"a":{"a":1,"a":2}}`, `{"a":1,"a":2} x`, `{"a":1,"a":2]`, `{"b":[[[[[[1]]]]]],"b":[`, `[{"a":1},{"b":1,"b":2}]`,
	} {
		refuses(t, s, api.ErrTwice)
	}
	for _, s := range []string{`{"a":1 "a":2}`, `{"a":1,"a`, `{"a":1,"a\"`, `{"a":1;"a":2}`, `{"a":1,,"a":2}`, `{"a":1,a:2}`, `{"a","a"}`, `{"a" "a"}`, `{"a":1]`, `{"a":1,"\u0061":2}`, `["a":1,"a":2]`, `{"a":01,"a":2}`, `{"a":1.0,"a":2}`} {
		refuses(t, s, api.ErrForm)
	}
	for _, s := range []string{`{"a":1,"A":2}`, `{"a":1,"a ":2}`, `{"a":1,"aa":2}`, `{"a":{"a":{"a":1}}}`, `[{"a":1},{"a":2}]`, `{"a":{"b":1},"b":{"a":1}}`, `{"a":"b","b":"a"}`, `{"a":1,"":1}`, `["a","a"]`, `{"a":["b","b"],"b":["a"]}`} {
		if fault := read(t, s); fault != api.OK {
			t.Errorf("Parse(%s): %v", s, fault)
		}
	}
	names := make([]string, 40)
	kids := make([]api.Value, 40)
	for i := range names {
		names[i] = fmt.Sprint(i)
		kids[i] = number(i)
	}
	for i := range names {
		asWorded(t, object(names[:i], kids[:i]...))
		for j := range i {
			twice := slices.Clone(names[:i+1])
			twice[i] = names[j]
			v := object(twice, kids[:i+1]...)
			mayNot(t, v)
			refuses(t, print(v, none), api.ErrTwice)
		}
	}
}

// P1203: what stands behind a value, whatever that is and whatever it is.
func TestMore(t *testing.T) {
	for _, value := range []string{"null", "true", "false", "0", "-1", `""`, `"a"`, "[]", "[1]", "{}", `{"a":1}`, strings.Repeat("[", 8) + strings.Repeat("]", 8)} {
		v, _ := parse(value)
		for c := range 256 {
			b := string([]byte{byte(c)})
			for _, s := range []string{value + b, value + " " + b, b + value, value + b + b} {
				read(t, s)
			}
			if !strings.Contains("\t\n\r 0123456789", b) {
				refuses(t, value+b, api.ErrMore)
				refuses(t, value+"\r\n"+b, api.ErrMore)
			}
		}
		for _, blank := range []string{" ", "\t", "\n", "\r", " \r\n\t", strings.Repeat(" ", 5000)} {
			parses(t, value+blank, v, api.OK)
			parses(t, blank+value, v, api.OK)
			parses(t, blank+value+blank, v, api.OK)
			for _, more := range []string{"null", "nul", "]", "}", ",", ":", `"`, `""`, "\"\xff", "-", "[[[[[[[[[", "{\"a\":1,\"a\"", "\x00", "\v", "\f", "\u00a0", "\u0085", "\ufeff"} {
				refuses(t, value+blank+more, api.ErrMore)
			}
		}
	}
	refuses(t, "truefalse", api.ErrMore)
	refuses(t, "nullnull", api.ErrMore)
	refuses(t, "[][]", api.ErrMore)
}

// P1203: what is no value.
func TestRefusesForm(t *testing.T) {
	for _, s := range []string{
		"", " ", "\n", "n", "nu", "nul", "t", "tru", "f", "fals", "Null", "NULL", "True", "TRUE", "False", "nil", "undefined", "yes", "a", "'a'", "`a`", "\x00", "\v1", "\f1", "\u00a01", "\u00851", "\ufeff1", "/**/1", "#", "n ull", "tr ue", "fal\nse",
		"]", "}", ",", ":", ",1", ":1", "=1", "(", "<a>", "a:1", "\\", "\\\"\"", "][", "}{",
		"[", "[1", "[1,", "[,", "[,]", "[,1]", "[1,]", "[1,,2]", "[1 2]", "[1;2]", "[1:2]", "[1}", "[}", "[1,}", "[[]", "[[1]", "[1,[2]", "[\"a\"", "[\"a", "[null", "[nul]", "[nullx]", "[truefalse]", "[\"a\":1]", "[a]", "[1,2", "[1 ,", "[1, ]", "[\v]", "[\x00]", "[\ufeff]",
		"{", "{,", "{:", "{]", "{,}", "{:}", "{a", "{a:1}", "{'a':1}", "{1", "{1:1}", "{null:1}", "{true:1}", "{[]:1}", "{{}:1}", "{-1:1}", "{\"a\"", "{\"a\"}", "{\"a\",", "{\"a\"]", "{\"a\":", "{\"a\":}", "{\"a\":,", "{\"a\"::1}", "{\"a\":1", "{\"a\":1,", "{\"a\":1,}", "{\"a\":1,,\"b\":2}", "{,\"a\":1}", "{\"a\":1 \"b\":2}", "{\"a\":1;\"b\":2}", "{\"a\":1:\"b\":2}", "{\"a\":1]", "{\"a\" 1}", "{\"a\"=1}", "{\"a\"=>1}", "{\"a\":1,\"b\"}", "{\"a\":1,\"b\":}", "{\"a\":1,b:2}", "{\"a\":1,2}", "{\"a\":1,null}", "{\"a\" \"b\"}", "{\"a\":\"b\"", "{\"a\":\"b", "{\"a\":{}", "{\"a\":[}", "{\"a\":{]}", "{\"a:1}", "{\"a\":1,\"b:2}", "{\"a\":nul}", "{\"a\":-}", "{\"a\":01}",
	} {
		refuses(t, s, api.ErrForm)
		refuses(t, " \n"+s, api.ErrForm)
	}
}

// P1203, P5: the first fault from the left tells.
func TestFirstFault(t *testing.T) {
	big, twice := strings.Repeat("[", 9), `{"a":1,"a"`
	for s, fault := range map[string]api.Errno{
		"[x," + big: api.ErrForm, "[01," + big: api.ErrForm, "[\"\n\"," + big: api.ErrForm, "[1 " + big: api.ErrForm, big + "x": api.ErrBig, big + "]]]]]]]]]": api.ErrBig, big + twice: api.ErrBig,
		"[" + twice + ":" + big: api.ErrTwice, "[x," + twice: api.ErrForm, "[" + twice + "x": api.ErrTwice, "[" + twice + "\xff": api.ErrTwice, "[" + big + twice: api.ErrBig,
		"[] " + big: api.ErrMore, "[] " + twice: api.ErrMore, "[] x": api.ErrMore, "1 " + big: api.ErrMore, "[1] \"\xff": api.ErrMore, "[x] 1": api.ErrForm, "[1,] 1": api.ErrForm, twice + ":1} 1": api.ErrTwice, big + strings.Repeat("]", 9) + " 1": api.ErrBig,
		`{"b":` + twice: api.ErrTwice, `{"a":` + twice: api.ErrTwice, `{"a":1,"b":` + big: api.ErrBig, `{"a":1,"b"` + big: api.ErrForm, `{"a":1,"b",` + big: api.ErrForm, `{"a":[1,],"a"`: api.ErrForm, `{"a":` + big + `,"a"`: api.ErrBig,
	} {
		refuses(t, s, fault)
		read(t, s)
	}
}

// P1203: each byte at each place of some texts, brought in, instead of what is there, and what is there lost.
func TestEachPlace(t *testing.T) {
	faults := map[api.Errno]int{}
	for _, s := range []string{`{"a":1,"b":[true,null,-20],"":{"c\"\u001f":"\\d"}}`, "[ 1 , { \"a\" : false } ]", "[[[[[[[[1]]]]]]]]", `{"a":{"a":1},"b":"x"}`} {
		for i := range len(s) {
			faults[read(t, s[:i])]++
			faults[read(t, s[i:])]++
			faults[read(t, s[:i]+s[i+1:])]++
			for c := range 256 {
				b := string([]byte{byte(c)})
				faults[read(t, s[:i]+b+s[i:])]++
				faults[read(t, s[:i]+b+s[i+1:])]++
			}
		}
	}
	if faults[api.OK] < 1000 || faults[api.ErrForm] < 10000 || faults[api.ErrTwice] < 2 || faults[api.ErrMore] < 10 || faults[api.ErrBig] < 2 {
		t.Error(faults)
	}
}

// P1203: each short text of the pieces at which reading may go wrong.
func TestEachReading(t *testing.T) {
	faults := map[api.Errno]int{}
	var try func(front string, pieces []string, more int)
	try = func(front string, pieces []string, more int) {
		faults[read(t, front)]++
		if more == 0 {
			return
		}
		for _, s := range pieces {
			try(front+s, pieces, more-1)
		}
	}
	try("", []string{"[", "]", "{", "}", ",", ":", "1", `""`, "null", " "}, 5)
	try("{", []string{"[", "]", "}", ",", ":", "0", `"a"`, `"b"`}, 6)
	try(`{"a":1`, []string{"{", "}", ",", ":", "1", `"a"`, `"b"`}, 6)
	try("", []string{`"`, `\`, "u", "0", "1", "f", "\n", "\xc3", "\xa9"}, 6)
	try(`"\u0`, []string{`"`, `\`, "u", "0", "1", "f", "F"}, 5)
	try("", []string{"-", "0", "1", "9", " ", ".", "[", "]"}, 6)
	try("9007199254740", []string{"-", "0", "9", "2"}, 5)
	try("[[[[[[[", []string{"[", "]", "{", "}", ",", `"a"`, ":", "1"}, 5)
	if faults[api.OK] < 2000 || faults[api.ErrForm] < 100000 || faults[api.ErrTwice] < 1000 || faults[api.ErrMore] < 10000 || faults[api.ErrBig] < 1000 {
		t.Error(faults)
	}
}

// drawn makes a value that may be, of which stands deep what is made.
func drawn(draw *rand.Rand, deep int) api.Value {
	text := func() string {
		runes := make([]rune, draw.Intn(5))
		for i := range runes {
			runes[i] = []rune("ab\"\\\x00\n\x1f\x7f/u0\u00e9\u20ac\U0001f600 ")[draw.Intn(15)]
		}
		return string(runes)
	}
	kinds := 6
	if deep > 8 {
		kinds = 4
	}
	switch kind := 1 + draw.Intn(kinds); kind {
	case 2:
		return truth(draw.Intn(2) == 0)
	case 3:
		return number(int(draw.Int63n(1<<54+1)) - 1<<53>>draw.Intn(54))
	case 4:
		return words(text())
	case 5, 6:
		v := api.Value{Kind: kind}
		for range draw.Intn(5) {
			name := text()
			if kind == 6 && slices.Contains(v.Names, name) {
				continue
			}
			if kind == 6 {
				v.Names = append(v.Names, name)
			}
			v.Kids = append(v.Kids, drawn(draw, deep+1))
		}
		return v
	}
	return null()
}

// P1201, P1202, P1204: drawn values, with whatever blanks between.
func TestDrawnValues(t *testing.T) {
	draw := rand.New(rand.NewSource(1204))
	deep := 0
	for range 5000 {
		v := drawn(draw, 1)
		if v.N > 1<<53 || v.N < -1<<53 {
			mayNot(t, v)
			continue
		}
		if asWorded(t, v) {
			deep++
		}
		gap := func() string { return []string{"", " ", "\n", "\t\r"}[draw.Intn(4)] }
		if may(v, 1) {
			parses(t, print(v, gap), v, api.OK)
		}
	}
	if deep < 2000 {
		t.Errorf("%d may be", deep)
	}
}

// P1203: printed values with a byte changed, lost or brought in.
func TestDrawnTexts(t *testing.T) {
	draw := rand.New(rand.NewSource(1203))
	faults := map[api.Errno]int{}
	const some = "[]{},:\"\\u0019-ntf \n\x00\xff."
	for range 3000 {
		s := print(list(drawn(draw, 2), drawn(draw, 2), drawn(draw, 2)), none)
		for range 20 {
			i := draw.Intn(len(s))
			b := string(some[draw.Intn(len(some))])
			for _, changed := range []string{s[:i] + s[i+1:], s[:i] + b + s[i:], s[:i] + b + s[i+1:], s[i:], s[:i]} {
				faults[read(t, changed)]++
			}
		}
	}
	if faults[api.OK] < 1000 || faults[api.ErrForm] < 1000 || faults[api.ErrMore] < 1000 {
		t.Error(faults)
	}
}

// P1203: Same of each two of many that are almost the same.
func TestSame(t *testing.T) {
	l := []api.Value{
		null(), truth(true), truth(false), number(0), number(1), number(-1), words(""), words("a"), words("A"), words("null"), words("1"), words("[]"),
		list(), list(list()), list(null()), list(number(1)), list(number(2)), list(number(1), number(1)), list(number(1), number(2)), list(number(2), number(1)), list(words("a")), list(list(number(1)), number(2)), list(list(number(1), number(2))),
		object(nil), one("", null()), one("a", null()), one("b", null()), one("a", words("a")), one("a", number(1)), one("a", number(2)), one("a", object(nil)), one("a", one("a", null())), one("a", one("b", null())), one("a", list()),
		object([]string{"a", "b"}, number(1), number(2)), object([]string{"b", "a"}, number(2), number(1)), object([]string{"a", "b"}, number(2), number(1)), object([]string{"b", "a"}, number(1), number(2)), object([]string{"a", "b", "c"}, number(1), number(2), number(3)),
	}
	for i, a := range l {
		for j := range l {
			b, _ := parse(print(l[j], none))
			if got := json.Same(a, b); got != (i == j) {
				t.Errorf("Same(%s, %s): %v", told(a), told(b), got)
			}
			if got := json.Same(one("x", list(null(), a)), one("x", list(null(), b))); got != (i == j) {
				t.Errorf("Same around %s, %s: %v", told(a), told(b), got)
			}
		}
	}
	if !json.Same(list(), api.Value{Kind: api.VList, Names: []string{}, Kids: []api.Value{}}) || !json.Same(api.Value{Kind: api.VNull, Kids: []api.Value{}}, null()) {
		t.Error("an empty list and none are not the same")
	}
}

// gets holds Get and Text of v against what they must answer.
func gets(t *testing.T, v api.Value, name string, want api.Value, is bool) {
	t.Helper()
	if got, ok := json.Get(v, name); ok != is || !same(got, want) {
		t.Errorf("Get(%s, %q): %s, %v, not %s, %v", told(v), name, told(got), ok, told(want), is)
	}
	if got, ok := json.Text(v, name); ok != (want.Kind == api.VText) || ok && got != want.S || !ok && got != "" {
		t.Errorf("Text(%s, %q): %q, %v", told(v), name, got, ok)
	}
}

// P1203: Get and Text, of each kind.
func TestGet(t *testing.T) {
	kids := []api.Value{null(), truth(true), number(0), number(5), words(""), words("x"), list(), list(words("a"), number(1)), object(nil), one("a", words("b")), object([]string{"a", "b"}, list(one("c", number(1))), words("y"))}
	names := []string{"a", "A", "", "b", "ab", "a ", "\u00e9", "\x00", "\"", "name", "c"}
	v := object(names, kids...)
	for i, name := range names {
		gets(t, v, name, kids[i], true)
		gets(t, one(name, kids[i]), name, kids[i], true)
		for _, other := range []string{"z", "aa", "B", " ", " a", "\u00c9", "\xff", "0"} {
			gets(t, v, other, api.Value{}, false)
		}
		for n := range names {
			if n <= i {
				gets(t, object(names[:n], kids[:n]...), name, api.Value{}, false)
			}
		}
	}
	for _, v := range append(kids[:8:8], api.Value{}, object(nil), words("a"), list(words("a")), list(one("a", words("x"))), one("b", one("a", words("x"))), one("b", words("a"))) {
		gets(t, v, "a", api.Value{}, false)
	}
}

// P1203: Get and Text of a VObj that may not be: what they ask for is there, or not.
func TestGetWhatMayNotBe(t *testing.T) {
	a, b := words("x"), number(1)
	gets(t, object([]string{"a", "a"}, a, b), "a", a, true)
	gets(t, object([]string{"a", "a"}, b, a), "a", b, true)
	gets(t, object([]string{"a", "b"}, a), "a", a, true)
	gets(t, object([]string{"a", "b"}, a), "b", api.Value{}, false)
	gets(t, object([]string{"a"}), "a", api.Value{}, false)
	gets(t, object(nil, a), "a", api.Value{}, false)
	gets(t, object(nil, a), "", api.Value{}, false)
	gets(t, object([]string{"a"}, a, b), "a", a, true)
	gets(t, object([]string{"\xff", "a"}, words("\xff"), a), "a", a, true)
	gets(t, object([]string{"\xff", "a"}, words("\xff"), a), "\xff", words("\xff"), true)
	for _, v := range []api.Value{{}, {Kind: 9, N: 3}, {Kind: api.VNull, B: true, N: 2, S: "s", Names: []string{"n"}, Kids: []api.Value{null()}}, {Kind: api.VText, S: "s", N: 1}} {
		gets(t, object([]string{"z", "a"}, b, v), "a", v, true)
	}
	for _, kind := range []int{0, 1, 2, 3, 4, 5, 7, -6, 262} {
		gets(t, api.Value{Kind: kind, Names: []string{"a"}, Kids: []api.Value{a}}, "a", api.Value{}, false)
	}
	deep := a
	for range 50 {
		deep = list(one("a", deep))
	}
	gets(t, one("a", deep), "a", deep, true)
}

// P1201: many values in all.
func TestMany(t *testing.T) {
	const all = 1 << 16
	kids := make([]api.Value, all-1)
	names := make([]string, all-1)
	for i := range kids {
		kids[i] = null()
		names[i] = strconv.Itoa(i)
	}
	both(t, list(kids...), "["+strings.Repeat("null,", all-2)+"null]")
	s := json.Print(object(names, kids...))
	if !json.May(object(names, kids...)) || len(s) != 1+(all-1)*8+len(strings.Join(names, "")) {
		t.Errorf("a VObj of %d Kids is printed as %d bytes", len(kids), len(s))
	}
	parses(t, s, object(names, kids...), api.OK)
	gets(t, object(names, kids...), strconv.Itoa(all-2), null(), true)
	names[all-2] = "0"
	mayNot(t, object(names, kids...))
	refuses(t, s[:strings.LastIndex(s, `"65534"`)]+`"0"`, api.ErrTwice)
	kids[all-2] = words("\xff")
	mayNot(t, list(kids...))
}

// P1203: more values than those of which May is asked are read, too.
func TestReadsMore(t *testing.T) {
	const n = 100000
	v, e := json.Parse("[" + strings.Repeat("1,", n-1) + "1]")
	if e != api.OK || len(v.Kids) != n || slices.ContainsFunc(v.Kids, func(kid api.Value) bool { return !same(kid, number(1)) }) {
		t.Errorf("%v, %d Kids", e, len(v.Kids))
	}
	gets(t, one("a", v), "a", v, true)
}

// P1: long texts of whatever pieces.
func TestLong(t *testing.T) {
	const n = 1 << 16
	for _, piece := range []string{"[", "{", "]", "1", "-", "0", `"`, `\`, `""`, " ", "null", `\u0000`, "\xff", "a", ",", "[],", `{"a":`, `"a":1,`, "\\\"", `"a`} {
		long := strings.Repeat(piece, n)
		for _, front := range []string{"", "[", "{", `"`, `["`, `{"a":1,`, `"\`} {
			read(t, front+long)
			read(t, front+long+`"`)
		}
	}
	long := strings.Repeat("a\x00\"", n)
	both(t, words(long), `"`+strings.Repeat(`a\u0000\"`, n)+`"`)
	both(t, one(long, null()), `{"`+strings.Repeat(`a\u0000\"`, n)+`":null}`)
	mayNot(t, words(long+"\xff"))
}

// ends asks all calls of v: it is enough that they end.
func ends(v api.Value) {
	json.May(v)
	json.Print(v)
	json.Same(v, v)
	for _, name := range []string{"a", "b"} {
		json.Get(v, name)
		json.Text(v, name)
	}
}

// P1: values that stand within themselves, or many times in each other.
func TestNoEnd(t *testing.T) {
	for _, kind := range []int{api.VList, api.VObj, api.VNull, 0} {
		for _, n := range []int{1, 2, 300} {
			loop := api.Value{Kind: kind, Kids: make([]api.Value, n)}
			if kind == api.VObj {
				loop.Names = []string{"a", "b"}
			}
			for i := range loop.Kids {
				loop.Kids[i] = loop
			}
			ends(loop)
			ends(object([]string{"b", "a"}, loop, loop))
			mayNot(t, loop)
			mayNot(t, one("a", loop))
			if got, is := json.Get(one("a", loop), "a"); is || !same(got, api.Value{}) {
				t.Errorf("Get of what has no end: %s, %v", told(got), is)
			}
		}
	}
	wide := words("a")
	for range 6 {
		wide = list(slices.Repeat([]api.Value{wide}, 1000)...)
	}
	ends(wide)
	ends(one("a", wide))
	deep := null()
	for range 100000 {
		deep = one("a", deep)
	}
	ends(deep)
	mayNot(t, deep)
}

// P1: a long text that stands in many places is not written as often as that.
func TestLongAndMany(t *testing.T) {
	long := words(strings.Repeat("a", 1<<20))
	ends(list(slices.Repeat([]api.Value{long}, 1<<16-1)...))
	ends(one("a", list(slices.Repeat([]api.Value{long}, 1<<16-1)...)))
	names := []string{long.S, "b"}
	ends(one("a", list(slices.Repeat([]api.Value{object(names, null(), null())}, 1<<14)...)))
}

// P1, P6: whatever plain data, drawn.
func TestAnyValue(t *testing.T) {
	draw := rand.New(rand.NewSource(1201))
	is, no := 0, 0
	var odd func(deep int) api.Value
	odd = func(deep int) api.Value {
		v := drawn(draw, 7)
		switch draw.Intn(12) {
		case 0:
			v.Kind = draw.Intn(9) - 1
		case 1:
			v.N = draw.Int() >> draw.Intn(63)
		case 2:
			v.S += string([]string{"\xff", "\ufffd", "a"}[draw.Intn(3)])
		case 3:
			v.Names = append(v.Names, []string{"\xff", "a", "b", ""}[draw.Intn(4)])
		case 4:
			v.B = !v.B
		}
		for range draw.Intn(3) {
			if deep < 10 && draw.Intn(3) == 0 {
				v.Kids = append(v.Kids, odd(deep+1))
			}
		}
		return v
	}
	for range 20000 {
		v := odd(1)
		if asWorded(t, v) {
			is++
		} else {
			no++
		}
		ends(v)
	}
	if is < 2000 || no < 2000 {
		t.Error(is, no)
	}
}

// P2: what is handed in, and its spare room, stays.
func TestHandedInStays(t *testing.T) {
	names := []string{"a", "b\n", "spare", "room"}
	inner := []api.Value{number(1), words("x\"y"), null()}
	kids := []api.Value{{Kind: api.VList, Kids: inner[:2]}, words("z"), truth(true), number(9)}
	for n := range 5 {
		v := api.Value{Kind: api.VObj, Names: names[:n], Kids: kids[:n]}
		ends(v)
		ends(api.Value{Kind: api.VList, Kids: kids[:n]})
		json.Get(v, "room")
		json.Same(v, list(kids...))
		if len(v.Names) != n || len(v.Kids) != n || v.Kind != api.VObj {
			t.Error("v was changed")
		}
	}
	if !slices.Equal(names, []string{"a", "b\n", "spare", "room"}) || !slices.EqualFunc(inner, []api.Value{number(1), words("x\"y"), null()}, same) || !slices.EqualFunc(kids, []api.Value{list(number(1), words("x\"y")), words("z"), truth(true), number(9)}, same) {
		t.Error("what was handed in was changed")
	}
}

// rooms puts down the places of the lists of v, their spare room too; said is told of a place that is there already.
func rooms(v api.Value, places map[any]bool, said func()) {
	put := func(place any) {
		if places[place] {
			said()
		}
		places[place] = true
	}
	names, kids := v.Names[:cap(v.Names)], v.Kids[:cap(v.Kids)]
	for i := range names {
		put(&names[i])
	}
	for i := range kids {
		put(&kids[i])
	}
	for _, kid := range v.Kids {
		rooms(kid, places, said)
	}
}

// P2: no two lists of answers share memory, with each other or with what was handed in.
func TestAnswersAreNew(t *testing.T) {
	const s = `{"a":[1,[2,3],{"b":1,"c":[]}],"b":{"a":[],"b":[1]},"c":[]}`
	places := map[any]bool{}
	said := func() { t.Error("two lists share memory") }
	for range 3 {
		v, e := json.Parse(s)
		if e != api.OK {
			t.Fatal(e)
		}
		rooms(v, places, said)
		for range 2 {
			for _, name := range []string{"a", "b", "c"} {
				kid, is := json.Get(v, name)
				if !is {
					t.Fatal(name)
				}
				rooms(kid, places, said)
			}
		}
	}
	kids := []api.Value{number(1), number(2)}
	one := list(list(kids...), list(kids...))
	got, _ := json.Get(object([]string{"a"}, one), "a")
	rooms(got, places, said)
}

// P2: what is answered does not hang on the texts that were handed in.
func TestTextsAreNew(t *testing.T) {
	whole := func(b []byte) string { return unsafe.String(&b[0], len(b)) }
	text := []byte(`{"name":"value","b":["text",{"c":"d"}],"null":null}`)
	want, _ := parse(string(text))
	v, e := json.Parse(whole(text))
	clear(text)
	if e != api.OK || !same(v, want) {
		t.Errorf("Parse: %s, %v", told(v), e)
	}
	name, value, deep := []byte("name"), []byte("value"), []byte("deep")
	o := object([]string{"a", "b"}, one(whole(name), list(words(whole(deep)))), words(whole(value)))
	kid, _ := json.Get(o, "a")
	plain, _ := json.Get(o, "b")
	s, _ := json.Text(o, "b")
	printed := json.Print(o)
	bare := json.Print(words(whole(value)))
	for _, b := range [][]byte{name, value, deep} {
		clear(b)
	}
	if !same(kid, one("name", list(words("deep")))) || !same(plain, words("value")) || s != "value" || printed != `{"a":{"name":["deep"]},"b":"value"}` || bare != `"value"` {
		t.Errorf("an answer changed with what was handed in: %s, %s, %q, %q, %q", told(kid), told(plain), s, printed, bare)
	}
}

// P3: the same calls answer the same.
func TestSameAnswers(t *testing.T) {
	names := make([]string, 50)
	kids := make([]api.Value, 50)
	for i := range names {
		names[i], kids[i] = strconv.Itoa(i), number(i)
	}
	v := object(names, kids...)
	s := print(v, none)
	for range 20 {
		both(t, v, s)
		gets(t, v, "33", number(33), true)
	}
}
