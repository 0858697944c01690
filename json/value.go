package json

import (
	"strconv"
	"strings"

	"countersign/api"
)

const hex = "0123456789abcdef"

// A piece is what a text is made of: it writes itself.
type piece interface{ write(b *strings.Builder) }

// A value is a piece of which there is an api.Value: the plain one.
type value interface {
	piece
	plain() api.Value
}

// A sign stands around and between values.
type sign byte

// The kinds of values.
type (
	null   struct{}
	truth  bool
	number int
	words  string
	list   []api.Value
	object struct {
		names []string
		kids  []api.Value
	}
)

// taken takes v for what its Kind says: nil, if its Kind is none.
func taken(v api.Value) value {
	switch v.Kind {
	case api.VNull:
		return null{}
	case api.VBool:
		return truth(v.B)
	case api.VInt:
		return number(v.N)
	case api.VText:
		return words(v.S)
	case api.VList:
		return list(v.Kids)
	case api.VObj:
		return object{v.Names, v.Kids}
	}
	return nil
}

func (null) plain() api.Value     { return api.Value{Kind: api.VNull} }
func (x truth) plain() api.Value  { return api.Value{Kind: api.VBool, B: bool(x)} }
func (x number) plain() api.Value { return api.Value{Kind: api.VInt, N: int(x)} }
func (x words) plain() api.Value  { return api.Value{Kind: api.VText, S: string(x)} }
func (x list) plain() api.Value   { return api.Value{Kind: api.VList, Kids: x} }
func (x object) plain() api.Value { return api.Value{Kind: api.VObj, Names: x.names, Kids: x.kids} }

// written is what p writes.
func written(p piece) string {
	var b strings.Builder
	p.write(&b)
	return b.String()
}

func (x sign) write(b *strings.Builder) { b.WriteByte(byte(x)) }

func (null) write(b *strings.Builder) { b.WriteString("null") }

func (x truth) write(b *strings.Builder) { b.WriteString(strconv.FormatBool(bool(x))) }

func (x number) write(b *strings.Builder) { b.WriteString(strconv.Itoa(int(x))) }

// write goes by bytes: those of a rune above 127 are none of those that are not written as they are.
func (x words) write(b *strings.Builder) {
	b.WriteByte('"')
	for i := range len(x) {
		c := x[i]
		switch {
		case c < ' ':
			b.WriteString(`\u00`)
			b.WriteByte(hex[c>>4])
			b.WriteByte(hex[c&15])
		case c == '"' || c == '\\':
			b.WriteByte('\\')
			b.WriteByte(c)
		default:
			b.WriteByte(c)
		}
	}
	b.WriteByte('"')
}

// The Kids of what is written may be: so each is taken for something.

func (x list) write(b *strings.Builder) {
	b.WriteByte('[')
	for i, kid := range x {
		comma(b, i)
		taken(kid).write(b)
	}
	b.WriteByte(']')
}

func (x object) write(b *strings.Builder) {
	b.WriteByte('{')
	for i, kid := range x.kids {
		comma(b, i)
		words(x.names[i]).write(b)
		b.WriteByte(':')
		taken(kid).write(b)
	}
	b.WriteByte('}')
}

// comma stands ahead of all but the first.
func comma(b *strings.Builder, i int) {
	if i > 0 {
		b.WriteByte(',')
	}
}
