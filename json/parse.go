package json

import (
	"strconv"
	"strings"

	"countersign/api"
)

const (
	blanks = "\t\n\r "
	digits = "0123456789"
	escape = len(`\u0000`) // bytes
)

// A reader has what is left of a text.
type reader struct{ rest string }

// bare takes the blanks ahead of s away.
func bare(s string) string { return strings.TrimLeft(s, blanks) }

// value reads a value whose first piece is p. If it has Kids, it stands level deep.
func (r *reader) value(p piece, level int) (api.Value, api.Errno) {
	switch p := p.(type) {
	case value:
		return p.plain(), api.OK
	case sign:
		if p != '[' && p != '{' {
			break
		}
		if level > api.MaxLevel {
			return api.Value{}, api.ErrBig
		}
		if p == '[' {
			return r.list(level)
		}
		return r.object(level)
	}
	return api.Value{}, api.ErrForm
}

// list reads a VList behind its first sign.
func (r *reader) list(level int) (api.Value, api.Errno) {
	var l list
	fault := r.until(']', func(p piece) api.Errno {
		kid, fault := r.value(p, level+1)
		l = append(l, kid)
		return fault
	})
	if fault != api.OK {
		return api.Value{}, fault
	}
	return l.plain(), api.OK
}

// object reads a VObj behind its first sign.
func (r *reader) object(level int) (api.Value, api.Errno) {
	var o object
	seen := map[words]bool{}
	fault := r.until('}', func(p piece) api.Errno {
		name, is := p.(words)
		if !is {
			return api.ErrForm
		}
		if seen[name] {
			return api.ErrTwice
		}
		seen[name] = true
		if r.sign() != ':' {
			return api.ErrForm
		}
		kid, fault := r.value(r.next(), level+1)
		o.names = append(o.names, string(name))
		o.kids = append(o.kids, kid)
		return fault
	})
	if fault != api.OK {
		return api.Value{}, fault
	}
	return o.plain(), api.OK
}

// until reads what has commas between, up to the sign end; read is handed the first piece of each, and reads the rest.
func (r *reader) until(end sign, read func(p piece) api.Errno) api.Errno {
	p := r.next()
	if c, is := p.(sign); is && c == end {
		return api.OK
	}
	for {
		if fault := read(p); fault != api.OK {
			return fault
		}
		switch r.sign() {
		case end:
			return api.OK
		case ',':
			p = r.next()
		default:
			return api.ErrForm
		}
	}
}

// sign takes the next piece, if that is a sign: 0, which is none, if not.
func (r *reader) sign() sign {
	c, _ := r.next().(sign)
	return c
}

// next takes the next piece: nil, if none stands there.
func (r *reader) next() piece {
	r.rest = bare(r.rest)
	front, p := guess(r.rest)
	if p == nil || written(p) != front {
		return nil
	}
	if v, is := p.(value); is && !may(v.plain(), 1) {
		return nil
	}
	r.rest = r.rest[len(front):]
	return p
}

// guess answers the front of s that must be one piece, and the only piece that it can be.
func guess(s string) (string, piece) {
	if strings.HasPrefix(s, `"`) {
		return guessWords(s)
	}
	if front := numeral(s); front != "" {
		n, _ := strconv.Atoi(front)
		return front, number(n)
	}
	for _, p := range fixed() {
		if front := written(p); strings.HasPrefix(s, front) {
			return front, p
		}
	}
	return "", nil
}

// fixed lists the pieces that are always written alike.
func fixed() []piece {
	return []piece{sign('['), sign(']'), sign('{'), sign('}'), sign(','), sign(':'), null{}, truth(true), truth(false)}
}

// numeral is the front of s that stands for a number: a minus, if one is there, and all digits behind it.
func numeral(s string) string {
	behind := strings.TrimLeft(strings.TrimPrefix(s, "-"), digits)
	return s[:len(s)-len(behind)]
}

// guessWords goes to the quote that ends the text at the front of s. Behind a backslash it takes a u for the beginning of a
// number, and all else for itself: if the text was not so meant, it is not so written.
func guessWords(s string) (string, piece) {
	var b strings.Builder
	for i := 1; i < len(s); i++ {
		if s[i] == '"' {
			return s[:i+1], words(b.String())
		}
		if s[i] != '\\' {
			b.WriteByte(s[i])
			continue
		}
		if code := s[i:]; strings.HasPrefix(code, `\u`) && len(code) >= escape {
			n, _ := strconv.ParseUint(code[2:escape], 16, 8)
			b.WriteByte(byte(n))
			i += escape - 1
			continue
		}
		i++
		if i < len(s) { // nothing stands behind the last
			b.WriteByte(s[i])
		}
	}
	return "", nil
}
