package schema

import (
	"strconv"
	"strings"

	"broker/api"
)

const hexDigits = "0123456789abcdef"

// appendType appends the notation of a schema.
func appendType(b []byte, t api.Type) []byte {
	switch t.Kind {
	case api.TypeInt:
		b = append(b, "int"...)
		if t.Min != -maxNum || t.Max != maxNum {
			b = appendBounds(b, t)
		}
	case api.TypeText:
		b = append(b, "text"...)
		if t.Min != 0 || t.Max != api.MaxPayload {
			b = appendBounds(b, t)
		}
	case api.TypeBool:
		b = append(b, "bool"...)
	case api.TypeAny:
		b = append(b, "any"...)
	case api.TypeEnum:
		b = append(b, "enum("+strings.Join(t.Options, "|")+")"...)
	case api.TypeList:
		b = appendBounds(append(b, "list"...), t)
		b = appendType(append(b, " of "...), t.Of[0])
	case api.TypeRecord:
		b = appendFields(b, t.Fields)
	}
	return b
}

// appendBounds appends a space and the bounds.
func appendBounds(b []byte, t api.Type) []byte {
	b = strconv.AppendInt(append(b, ' '), int64(t.Min), 10)
	return strconv.AppendInt(append(b, ".."...), int64(t.Max), 10)
}

func appendFields(b []byte, l []api.Field) []byte {
	b = append(b, '{')
	for i, f := range l {
		if i > 0 {
			b = append(b, ", "...)
		}
		b = append(b, f.Name...)
		if f.Optional {
			b = append(b, '?')
		}
		b = appendType(append(b, ": "...), f.Type)
	}
	return append(b, '}')
}

// writer collects the notation of a value. It gives up by a panic as soon as this is too long, however large the value is.
type writer struct{ b []byte }

// value writes a value without an error.
func (w *writer) value(v api.Value) {
	switch v.Kind {
	case api.TypeInt:
		w.put(strconv.Itoa(v.Num))
	case api.TypeText:
		w.text(v.Text)
	case api.TypeBool:
		w.put(strconv.FormatBool(v.Num == 1))
	case api.TypeList:
		w.put("[")
		w.parts(v)
		w.put("]")
	case api.TypeRecord:
		w.put("{")
		w.parts(v)
		w.put("}")
	}
}

// parts writes the elements of a list or a record, those of a record with their names.
func (w *writer) parts(v api.Value) {
	for i, part := range v.List {
		if i > 0 {
			w.put(",")
		}
		if v.Kind == api.TypeRecord {
			w.put(v.Names[i] + ":")
		}
		w.value(part)
	}
}

// text writes a string in double quotes.
func (w *writer) text(s string) {
	w.put(`"`)
	for i := range len(s) {
		switch c := s[i]; {
		case c == '"', c == '\\':
			w.put(`\` + s[i:i+1])
		case plain(c):
			w.put(s[i : i+1])
		default:
			w.put(`\x` + hexDigits[c>>4:c>>4+1] + hexDigits[c&15:c&15+1])
		}
	}
	w.put(`"`)
}

func (w *writer) put(s string) {
	w.b = append(w.b, s...)
	if len(w.b) > api.MaxText {
		panic(api.ErrTooLong)
	}
}

// plain reports whether a byte of a string is written as it is, or, if it is a quote or a backslash, behind a backslash.
func plain(c byte) bool { return ' ' <= c && c <= '~' }

// fault is the first error of a string, and its position.
type fault struct {
	at   int
	code api.Errno
}

// reader reads a notation from its beginning on. It gives up at the first error by a panic with its fault, which Parse and Value recover.
type reader struct {
	s  string
	at int
}

// newReader returns a reader at the beginning of s, or gives up.
func newReader(s string) *reader {
	if len(s) > api.MaxText {
		panic(fault{0, api.ErrTooLong})
	}
	return &reader{s: s}
}

// schema reads a type of a depth, which need not be a schema.
func (r *reader) schema(depth int) api.Type {
	r.enter(depth)
	switch r.next() {
	case 'i':
		r.word("int")
		return r.bounded(api.TypeInt, -maxNum, maxNum)
	case 't':
		r.word("text")
		return r.bounded(api.TypeText, 0, api.MaxPayload)
	case 'b':
		r.word("bool")
		return api.Type{Kind: api.TypeBool}
	case 'a':
		r.word("any")
		return api.Type{Kind: api.TypeAny}
	case 'e':
		return api.Type{Kind: api.TypeEnum, Options: r.options()}
	case 'l':
		r.word("list")
		t := r.bounds(api.TypeList)
		r.word(" of ")
		t.Of = []api.Type{r.schema(depth + 1)}
		return t
	case '{':
		return api.Type{Kind: api.TypeRecord, Fields: r.fields(depth + 1)}
	}
	panic(fault{r.at, api.ErrSyntax})
}

// bounded reads the bounds of a type, if there are any; otherwise it has the bounds that are given.
func (r *reader) bounded(kind, first, last int) api.Type {
	if r.next() == ' ' {
		return r.bounds(kind)
	}
	return api.Type{Kind: kind, Min: first, Max: last}
}

// bounds reads a space and the bounds of a type.
func (r *reader) bounds(kind int) api.Type {
	r.word(" ")
	first := r.number()
	r.word("..")
	return api.Type{Kind: kind, Min: first, Max: r.number()}
}

func (r *reader) options() []string {
	r.word("enum(")
	l := []string{r.name()}
	for !r.take(')') {
		r.word("|")
		l = append(l, r.name())
	}
	return l
}

// fields reads the fields of a record, with types of a depth.
func (r *reader) fields(depth int) []api.Field {
	var l []api.Field
	r.word("{")
	for !r.take('}') {
		if len(l) > 0 {
			r.word(", ")
		}
		f := api.Field{Name: r.name(), Optional: r.take('?')}
		r.word(": ")
		f.Type = r.schema(depth)
		l = append(l, f)
	}
	return l
}

// value reads a value of a depth.
func (r *reader) value(depth int) api.Value {
	r.enter(depth)
	switch c := r.next(); {
	case c == '-', digit(c):
		return api.Value{Kind: api.TypeInt, Num: r.number()}
	case c == '"':
		return api.Value{Kind: api.TypeText, Text: r.text()}
	case c == 'f':
		r.word("false")
		return api.Value{Kind: api.TypeBool}
	case c == 't':
		r.word("true")
		return api.Value{Kind: api.TypeBool, Num: 1}
	case c == '[':
		return r.list(depth + 1)
	case c == '{':
		return r.record(depth + 1)
	}
	panic(fault{r.at, api.ErrSyntax})
}

// list reads a list, with elements of a depth.
func (r *reader) list(depth int) api.Value {
	v := api.Value{Kind: api.TypeList}
	r.word("[")
	for !r.take(']') {
		if len(v.List) > 0 {
			r.word(",")
		}
		v.List = append(v.List, r.value(depth))
	}
	return v
}

// record reads a record, with elements of a depth.
func (r *reader) record(depth int) api.Value {
	v := api.Value{Kind: api.TypeRecord}
	r.word("{")
	last := ""
	for !r.take('}') {
		if last != "" {
			r.word(",")
		}
		last = r.nameAfter(last)
		r.word(":")
		v.Names = append(v.Names, last)
		v.List = append(v.List, r.value(depth))
	}
	return v
}

// nameAfter reads a name that follows another one of its record; the empty string precedes the first one.
func (r *reader) nameAfter(last string) string {
	start := r.at
	name := r.name()
	switch {
	case len(name) > api.MaxName:
		panic(fault{start, api.ErrName})
	case name <= last:
		panic(fault{start, api.ErrOrder})
	}
	return name
}

// text reads a string in double quotes.
func (r *reader) text() string {
	var out []byte
	r.word(`"`)
	for !r.take('"') {
		out = append(out, r.char())
	}
	return string(out)
}

// char reads a byte of a string in quotes.
func (r *reader) char() byte {
	c := r.next()
	switch {
	case c == '\\':
		return r.escaped()
	case !plain(c):
		panic(fault{r.at, api.ErrSyntax})
	}
	r.at++
	return c
}

// escaped reads a backslash and what follows it.
func (r *reader) escaped() byte {
	start := r.at
	r.word(`\`)
	if r.take('"') {
		return '"'
	}
	if r.take('\\') {
		return '\\'
	}
	r.word("x")
	high := r.hexDigit()
	c := high<<4 | r.hexDigit()
	if plain(c) {
		panic(fault{start, api.ErrSyntax})
	}
	return c
}

func (r *reader) hexDigit() byte {
	n := strings.IndexByte(hexDigits, r.next())
	if n < 0 {
		panic(fault{r.at, api.ErrSyntax})
	}
	r.at++
	return byte(n)
}

// number reads a number, as far as its digits go.
func (r *reader) number() int {
	start := r.at
	r.take('-')
	switch c := r.next(); {
	case !digit(c), c == '0' && r.at > start:
		panic(fault{r.at, api.ErrSyntax})
	case c == '0':
		r.at++
		return 0
	}
	for digit(r.next()) {
		r.at++
	}
	n, err := strconv.Atoi(r.s[start:r.at])
	if err != nil || !within(n, -maxNum, maxNum) {
		panic(fault{start, api.ErrRange})
	}
	return n
}

// name reads a name of any length, as far as its bytes go.
func (r *reader) name() string {
	start := r.at
	if !letter(r.next()) {
		panic(fault{r.at, api.ErrSyntax})
	}
	for c := r.next(); letter(c) || digit(c) || c == '-'; c = r.next() {
		r.at++
	}
	return r.s[start:r.at]
}

// enter gives up where a type or a value of a depth begins that is too great.
func (r *reader) enter(depth int) {
	if depth > api.MaxDepth {
		panic(fault{r.at, api.ErrDepth})
	}
}

// word reads the bytes of a string.
func (r *reader) word(s string) {
	for i := range len(s) {
		if !r.take(s[i]) {
			panic(fault{r.at, api.ErrSyntax})
		}
	}
}

// take reads a byte, if it is the next one, and reports that.
func (r *reader) take(c byte) bool {
	if r.next() != c {
		return false
	}
	r.at++
	return true
}

// next returns the next byte, or 0, which no notation contains, at the end.
func (r *reader) next() byte {
	if r.at == len(r.s) {
		return 0
	}
	return r.s[r.at]
}

// end gives up unless all is read.
func (r *reader) end() {
	if r.at < len(r.s) {
		panic(fault{r.at, api.ErrSyntax})
	}
}

func letter(c byte) bool { return 'a' <= c && c <= 'z' }

func digit(c byte) bool { return '0' <= c && c <= '9' }
