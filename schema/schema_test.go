package schema_test

import (
	"math"
	"math/big"
	"math/rand"
	"reflect"
	"regexp"
	"slices"
	"sort"
	"strconv"
	"strings"
	"testing"

	"broker/api"
	"broker/schema"
	"broker/topic"
)

// most is the greatest number of schemas and values.
const most = 4611686018427387904

var (
	boolean = api.Type{Kind: api.TypeBool}
	whatso  = api.Type{Kind: api.TypeAny}
	whole   = num(-most, most)
	words   = text(0, api.MaxPayload)
)

// num, text, enum, list and record return types of these kinds; must and may return fields.
func num(first, last int) api.Type { return api.Type{Kind: api.TypeInt, Min: first, Max: last} }

func text(first, last int) api.Type { return api.Type{Kind: api.TypeText, Min: first, Max: last} }

func enum(options ...string) api.Type { return api.Type{Kind: api.TypeEnum, Options: options} }

func list(first, last int, of api.Type) api.Type {
	return api.Type{Kind: api.TypeList, Min: first, Max: last, Of: []api.Type{of}}
}

func record(fields ...api.Field) api.Type { return api.Type{Kind: api.TypeRecord, Fields: fields} }

func must(name string, t api.Type) api.Field { return api.Field{Name: name, Type: t} }

func may(name string, t api.Type) api.Field { return api.Field{Name: name, Optional: true, Type: t} }

// n, s, truth, l and rec return values of the five kinds; the elements of rec are preceded by their names, which spaces divide.
func n(number int) api.Value { return api.Value{Kind: api.TypeInt, Num: number} }

func s(bytes string) api.Value { return api.Value{Kind: api.TypeText, Text: bytes} }

func truth(number int) api.Value { return api.Value{Kind: api.TypeBool, Num: number} }

func l(elements ...api.Value) api.Value { return api.Value{Kind: api.TypeList, List: elements} }

func rec(names string, elements ...api.Value) api.Value {
	return api.Value{Kind: api.TypeRecord, Names: strings.Fields(names), List: elements}
}

// nested returns a type of a depth, a number within lists; nestedRecord within records.
func nested(depth int) api.Type {
	t := whole
	for range depth - 1 {
		t = list(0, 1, t)
	}
	return t
}

func nestedRecord(depth int) api.Type {
	t := whole
	for range depth - 1 {
		t = record(must("a", t))
	}
	return t
}

// nestedValue returns a value of a depth, a number within lists; nestedNames within records.
func nestedValue(depth int) api.Value {
	v := n(1)
	for range depth - 1 {
		v = l(v)
	}
	return v
}

func nestedNames(depth int) api.Value {
	v := n(1)
	for range depth - 1 {
		v = rec("a", v)
	}
	return v
}

// many returns so many names in ascending order, each of two bytes.
func many(count int) []string {
	var names []string
	for i := range count {
		names = append(names, string([]byte{byte('a' + i/26), byte('a' + i%26)}))
	}
	return names
}

// manyFields returns so many fields in ascending order.
func manyFields(count int) []api.Field {
	var fields []api.Field
	for _, name := range many(count) {
		fields = append(fields, must(name, boolean))
	}
	return fields
}

// depthOf is the depth of a type as the chapter defines it.
func depthOf(t api.Type) int {
	deepest := 0
	switch t.Kind {
	case api.TypeList:
		for _, of := range t.Of {
			deepest = max(deepest, depthOf(of))
		}
	case api.TypeRecord:
		for _, f := range t.Fields {
			deepest = max(deepest, depthOf(f.Type))
		}
	}
	return deepest + 1
}

// check is Check as the chapter defines it.
func check(t api.Type) api.Errno {
	if depthOf(t) > api.MaxDepth {
		return api.ErrDepth
	}
	unbound, unset, unlisted, unnamed := t.Min == 0 && t.Max == 0, len(t.Options) == 0, len(t.Of) == 0, len(t.Fields) == 0
	used := false
	switch t.Kind {
	case api.TypeInt, api.TypeText:
		used = unset && unlisted && unnamed
	case api.TypeBool, api.TypeAny:
		used = unbound && unset && unlisted && unnamed
	case api.TypeEnum:
		used = unbound && unlisted && unnamed
	case api.TypeList:
		used = unset && unnamed && len(t.Of) == 1
	case api.TypeRecord:
		used = unbound && unset && unlisted
	default:
		return api.ErrKind
	}
	if !used {
		return api.ErrField
	}
	ordered := t.Min <= t.Max
	switch t.Kind {
	case api.TypeInt:
		if !ordered || t.Min < -most || t.Max > most {
			return api.ErrRange
		}
	case api.TypeText:
		if !ordered || t.Min < 0 || t.Max > 256 {
			return api.ErrRange
		}
	case api.TypeEnum:
		return checkOptions(t.Options)
	case api.TypeList:
		if !ordered || t.Min < 0 || t.Max > 32 {
			return api.ErrRange
		}
		return check(t.Of[0])
	case api.TypeRecord:
		return checkFields(t.Fields)
	}
	return api.OK
}

func checkOptions(options []string) api.Errno {
	if len(options) == 0 {
		return api.ErrRange
	}
	if len(options) > 16 {
		return api.ErrTooLong
	}
	for i, option := range options {
		if !topic.Name(option) {
			return api.ErrName
		}
		if i > 0 && options[i-1] >= option {
			return api.ErrOrder
		}
	}
	return api.OK
}

func checkFields(fields []api.Field) api.Errno {
	if len(fields) > 16 {
		return api.ErrTooLong
	}
	for i, f := range fields {
		if !topic.Name(f.Name) {
			return api.ErrName
		}
		if i > 0 && fields[i-1].Name >= f.Name {
			return api.ErrOrder
		}
		if code := check(f.Type); code != api.OK {
			return code
		}
	}
	return api.OK
}

// notation is the notation of a type as the chapter defines it; the type need not be valid.
func notation(t api.Type) string {
	bounds := " " + strconv.Itoa(t.Min) + ".." + strconv.Itoa(t.Max)
	switch t.Kind {
	case api.TypeInt:
		if bounds == " -4611686018427387904..4611686018427387904" {
			return "int"
		}
		return "int" + bounds
	case api.TypeText:
		if bounds == " 0..256" {
			return "text"
		}
		return "text" + bounds
	case api.TypeBool:
		return "bool"
	case api.TypeAny:
		return "any"
	case api.TypeEnum:
		return "enum(" + strings.Join(t.Options, "|") + ")"
	case api.TypeList:
		return "list" + bounds + " of " + notation(t.Of[0])
	}
	var fields []string
	for _, f := range t.Fields {
		mark := ": "
		if f.Optional {
			mark = "?: "
		}
		fields = append(fields, f.Name+mark+notation(f.Type))
	}
	return "{" + strings.Join(fields, ", ") + "}"
}

// depthOfValue is the depth of a value as the chapter defines it.
func depthOfValue(v api.Value) int {
	deepest := 0
	if v.Kind == api.TypeList || v.Kind == api.TypeRecord {
		for _, part := range v.List {
			deepest = max(deepest, depthOfValue(part))
		}
	}
	return deepest + 1
}

// checkValue is the first error of a value as the chapter defines it, apart from the length of its notation.
func checkValue(v api.Value) api.Errno {
	if depthOfValue(v) > api.MaxDepth {
		return api.ErrDepth
	}
	zero, empty, unnamed, unlisted := v.Num == 0, v.Text == "", len(v.Names) == 0, len(v.List) == 0
	used := false
	switch v.Kind {
	case api.TypeInt, api.TypeBool:
		used = empty && unnamed && unlisted
	case api.TypeText:
		used = zero && unnamed && unlisted
	case api.TypeList:
		used = zero && empty && unnamed
	case api.TypeRecord:
		used = zero && empty && len(v.Names) == len(v.List)
	default:
		return api.ErrKind
	}
	if !used {
		return api.ErrField
	}
	if v.Kind == api.TypeInt && (v.Num < -most || v.Num > most) || v.Kind == api.TypeBool && v.Num != 0 && v.Num != 1 {
		return api.ErrRange
	}
	for i, part := range v.List {
		if v.Kind == api.TypeRecord && !topic.Name(v.Names[i]) {
			return api.ErrName
		}
		if v.Kind == api.TypeRecord && i > 0 && v.Names[i-1] >= v.Names[i] {
			return api.ErrOrder
		}
		if code := checkValue(part); code != api.OK {
			return code
		}
	}
	return api.OK
}

// payload is the notation of a value as the chapter defines it.
func payload(v api.Value) string {
	switch v.Kind {
	case api.TypeInt:
		return strconv.Itoa(v.Num)
	case api.TypeText:
		return quoted(v.Text)
	case api.TypeBool:
		return []string{"false", "true"}[v.Num]
	}
	var parts []string
	for i, part := range v.List {
		if v.Kind == api.TypeRecord {
			parts = append(parts, v.Names[i]+":"+payload(part))
		} else {
			parts = append(parts, payload(part))
		}
	}
	if v.Kind == api.TypeRecord {
		return "{" + strings.Join(parts, ",") + "}"
	}
	return "[" + strings.Join(parts, ",") + "]"
}

// quoted is the notation of a string.
func quoted(text string) string {
	var out strings.Builder
	for _, c := range []byte(text) {
		switch {
		case c == '"' || c == '\\':
			out.Write([]byte{'\\', c})
		case c < 32 || c > 126:
			out.WriteString(`\x` + strconv.FormatInt(256+int64(c), 16)[1:])
		default:
			out.WriteByte(c)
		}
	}
	return `"` + out.String() + `"`
}

// same reports whether two results are equal, where an empty slice and nil are the same.
func same(a, b any) bool { return reflect.DeepEqual(normal(a), normal(b)) }

func normal(x any) any {
	switch x := x.(type) {
	case api.Type:
		x.Options = append([]string{}, x.Options...)
		of, fields := []api.Type{}, []api.Field{}
		for _, t := range x.Of {
			of = append(of, normal(t).(api.Type))
		}
		for _, f := range x.Fields {
			f.Type = normal(f.Type).(api.Type)
			fields = append(fields, f)
		}
		x.Of, x.Fields = of, fields
		return x
	case api.Value:
		x.Names = append([]string{}, x.Names...)
		parts := []api.Value{}
		for _, v := range x.List {
			parts = append(parts, normal(v).(api.Value))
		}
		x.List = parts
		return x
	}
	return x
}

// A symbol says what a string may go on with: a byte of a set, or something of a kind that is written in several ways.
type symbol struct {
	kind  string
	set   string // of a byte
	depth int    // of a type, a value or the parts of one
	last  string // of the members of a record: the name before
}

// bytesOf returns the symbols of the bytes of a word.
func bytesOf(word string) []symbol {
	var l []symbol
	for _, c := range []byte(word) {
		l = append(l, symbol{kind: "byte", set: string([]byte{c})})
	}
	return l
}

// either returns the symbol of one byte of a set.
func either(set string) symbol { return symbol{kind: "byte", set: set} }

// chain joins symbols and words to a list of symbols.
func chain(parts ...any) []symbol {
	var l []symbol
	for _, p := range parts {
		switch p := p.(type) {
		case string:
			l = append(l, bytesOf(p)...)
		case symbol:
			l = append(l, p)
		case []symbol:
			l = append(l, p...)
		}
	}
	return l
}

const (
	digits  = "0123456789"
	letters = "abcdefghijklmnopqrstuvwxyz"
)

// plainBytes returns the bytes of a string that are written as they are.
func plainBytes() string {
	var out []byte
	for c := byte(32); c <= 126; c++ {
		if c != '"' && c != '\\' {
			out = append(out, c)
		}
	}
	return string(out)
}

var (
	nameForm   = regexp.MustCompile(`^[a-z][a-z0-9-]*`)
	numberForm = regexp.MustCompile(`^(0|-?[1-9][0-9]*)`)
	escapeForm = regexp.MustCompile(`^\\x[0-9a-f][0-9a-f]`)
)

// ways returns the ways in which a symbol is written at the beginning of rest.
func (x symbol) ways(rest string) [][]symbol {
	number, name := symbol{kind: "number"}, symbol{kind: "name"}
	bounds := chain(" ", number, "..", number)
	deeper := func(kind string) symbol { return symbol{kind: kind, depth: x.depth + 1} }
	switch x.kind {
	case "type":
		return [][]symbol{
			chain("int"), chain("int", bounds), chain("text"), chain("text", bounds), chain("bool"), chain("any"),
			chain("enum(", symbol{kind: "options"}),
			chain("list", bounds, " of ", deeper("type")),
			chain("{}"), chain("{", deeper("fields")),
		}
	case "options":
		return [][]symbol{chain(name, ")"), chain(name, "|", x)}
	case "fields":
		of := symbol{kind: "type", depth: x.depth}
		return [][]symbol{chain(name, ": ", of, "}"), chain(name, "?: ", of, "}"), chain(name, ": ", of, ", ", x), chain(name, "?: ", of, ", ", x)}
	case "number":
		return [][]symbol{chain("0"), chain(either(digits[1:]), symbol{kind: "digits"}), chain("-", either(digits[1:]), symbol{kind: "digits"})}
	case "digits":
		return [][]symbol{{}, chain(either(digits), x)}
	case "name":
		return [][]symbol{chain(either(letters), symbol{kind: "letters"})}
	case "letters":
		return [][]symbol{{}, chain(either(letters+digits+"-"), x)}
	case "value":
		return [][]symbol{
			{number}, chain(`"`, symbol{kind: "chars"}), chain("false"), chain("true"),
			chain("[]"), chain("[", deeper("elements")),
			chain("{}"), chain("{", deeper("members")),
		}
	case "elements":
		of := symbol{kind: "value", depth: x.depth}
		return [][]symbol{chain(of, "]"), chain(of, ",", x)}
	case "members":
		of, next := symbol{kind: "value", depth: x.depth}, symbol{kind: "members", depth: x.depth, last: nameForm.FindString(rest)}
		return [][]symbol{chain(name, ":", of, "}"), chain(name, ":", of, ",", next)}
	case "chars":
		return [][]symbol{
			chain(`"`), chain(either(plainBytes()), x), chain(`\`, either(`"\`), x),
			chain(`\x`, either(digits+"abcdef"), either(digits+"abcdef"), x),
		}
	}
	return nil
}

// fault is the first error of s, which is to be written as first is, at or before its end; api.OK if there is none.
func fault(s string, first symbol) (int, api.Errno) {
	if len(s) > api.MaxText {
		return 0, api.ErrTooLong
	}
	stacks := [][]symbol{{first}}
	for at := 0; ; at++ {
		var seen []symbol
		stacks, seen = opened(stacks, s[at:])
		code := faultHere(s[at:], stacks, seen)
		if code != api.OK || at == len(s) {
			return at, code
		}
		var next [][]symbol
		for _, l := range stacks {
			if len(l) > 0 && strings.IndexByte(l[0].set, s[at]) >= 0 {
				next = append(next, l[1:])
			}
		}
		stacks = next
	}
}

// opened replaces what stands first in each stack until it is a byte, and returns also all that stood there.
func opened(stacks [][]symbol, rest string) ([][]symbol, []symbol) {
	var out [][]symbol
	var seen []symbol
	for len(stacks) > 0 {
		l := stacks[0]
		stacks = stacks[1:]
		if len(l) == 0 || l[0].kind == "byte" {
			out = append(out, l)
			continue
		}
		if !slices.Contains(seen, l[0]) {
			seen = append(seen, l[0])
		}
		if l[0].depth > api.MaxDepth && (l[0].kind == "type" || l[0].kind == "value") {
			continue
		}
		for _, way := range l[0].ways(rest) {
			stacks = append(stacks, chain(way, l[1:]))
		}
	}
	return out, seen
}

// faultHere is the first error at the beginning of rest.
func faultHere(rest string, stacks [][]symbol, seen []symbol) api.Errno {
	viable := slices.ContainsFunc(stacks, func(l []symbol) bool {
		if rest == "" {
			return len(l) == 0
		}
		return len(l) > 0 && strings.IndexByte(l[0].set, rest[0]) >= 0
	})
	closes := viable && rest != "" && rest[0] == ']'
	for _, x := range seen {
		if x.depth > api.MaxDepth && (x.kind == "type" || x.kind == "value" && !closes) {
			return api.ErrDepth
		}
	}
	if !viable {
		return api.ErrSyntax
	}
	for _, x := range seen {
		name := nameForm.FindString(rest)
		switch {
		case x.kind == "chars" && printable(escapeForm.FindString(rest)):
			return api.ErrSyntax
		case x.kind == "number" && tooLarge(numberForm.FindString(rest)):
			return api.ErrRange
		case x.kind == "members" && len(name) > 16:
			return api.ErrName
		case x.kind == "members" && name != "" && name <= x.last:
			return api.ErrOrder
		}
	}
	return api.OK
}

// printable reports whether an escape is that of a byte which needs none.
func printable(escape string) bool {
	if escape == "" {
		return false
	}
	c, _ := strconv.ParseInt(escape[2:], 16, 0)
	return c >= 32 && c <= 126
}

// tooLarge reports whether the absolute value of a number is greater than that of all numbers of schemas and values.
func tooLarge(digits string) bool {
	number, ok := new(big.Int).SetString(digits, 10)
	return ok && number.CmpAbs(big.NewInt(most)) > 0
}

// bounds are numbers that types have as bounds, good ones and bad ones.
var bounds = []int{math.MinInt, -most - 1, -most, -5, -1, 0, 1, 2, 8, 31, 32, 33, 255, 256, 257, most, most + 1, math.MaxInt}

// names are strings that types and values have as names, good ones and bad ones.
var names = []string{"a", "b", "b-1", "c", "port", "sixteen-bytes-ab", "zz", "", "A", "1a", "-", "a b", "seventeen-bytes-a", "a\x00"}

// pick returns one of the elements of l.
func pick[T any](r *rand.Rand, l []T) T { return l[r.Intn(len(l))] }

// someNames returns at most limit names in ascending order, all of them good.
func someNames(r *rand.Rand, limit int) []string {
	var l []string
	for range r.Intn(limit + 1) {
		l = append(l, names[r.Intn(7)])
	}
	sort.Strings(l)
	return slices.Compact(l)
}

// goodType returns a schema of at most this depth.
func goodType(r *rand.Rand, depth int) api.Type {
	kinds := 7
	if depth == 1 {
		kinds = 5
	}
	low := r.Intn(4)
	switch r.Intn(kinds) {
	case 0:
		return pick(r, []api.Type{whole, num(-low, low), num(low, low+3), num(-most, most-1), num(1-most, most)})
	case 1:
		return pick(r, []api.Type{words, text(low, low+2), text(1, 256), text(0, 255)})
	case 2:
		return boolean
	case 3:
		return whatso
	case 4:
		return enum(append(someNames(r, 3), "zzz")...)
	case 5:
		return list(low, low+r.Intn(4), goodType(r, depth-1))
	}
	t := record()
	for _, name := range someNames(r, 4) {
		t.Fields = append(t.Fields, api.Field{Name: name, Optional: r.Intn(2) == 0, Type: goodType(r, depth-1)})
	}
	return t
}

// badType returns a type of at most this depth that may have any defects.
func badType(r *rand.Rand, depth int) api.Type {
	if r.Intn(3) == 0 && depth > 0 {
		return goodType(r, depth)
	}
	t := api.Type{Kind: r.Intn(9)}
	if r.Intn(9) == 0 {
		t.Kind = pick(r, bounds)
	}
	if wants := t.Kind == api.TypeInt || t.Kind == api.TypeText || t.Kind == api.TypeList; wants != (r.Intn(9) == 0) {
		t.Min, t.Max = pick(r, bounds), pick(r, bounds)
	}
	if t.Kind == api.TypeEnum != (r.Intn(9) == 0) {
		for range r.Intn(4) {
			t.Options = append(t.Options, pick(r, names))
		}
	}
	if depth > 0 && t.Kind == api.TypeList != (r.Intn(9) == 0) {
		for range 1 + max(0, r.Intn(9)-7) {
			t.Of = append(t.Of, badType(r, depth-1))
		}
	}
	if depth > 0 && t.Kind == api.TypeRecord != (r.Intn(9) == 0) {
		for range r.Intn(4) {
			t.Fields = append(t.Fields, api.Field{Name: pick(r, names), Optional: r.Intn(2) == 0, Type: badType(r, depth-1)})
		}
	}
	return t
}

// goodValue returns a value of at most this depth.
func goodValue(r *rand.Rand, depth int) api.Value {
	kinds := 5
	if depth == 1 {
		kinds = 3
	}
	switch r.Intn(kinds) {
	case 0:
		return n(pick(r, []int{-most, 1 - most, -3, -1, 0, 1, 2, 3, 10, most - 1, most}))
	case 1:
		return s(pick(r, []string{"", "a", "b", "ab", "zzz", "\"", "\\", "\x00\x1f \x7e\x7f\x80\xff", "\\x41", "a,b]", "héé\n"}))
	case 2:
		return truth(r.Intn(2))
	case 3:
		v := l()
		for range r.Intn(4) {
			v.List = append(v.List, goodValue(r, depth-1))
		}
		return v
	}
	v := rec("")
	for _, name := range someNames(r, 4) {
		v.Names = append(v.Names, name)
		v.List = append(v.List, goodValue(r, depth-1))
	}
	return v
}

// badValue returns a value of at most this depth that may have any defects.
func badValue(r *rand.Rand, depth int) api.Value {
	if r.Intn(3) == 0 && depth > 0 {
		return goodValue(r, depth)
	}
	v := api.Value{Kind: r.Intn(9)}
	if wants := v.Kind == api.TypeInt || v.Kind == api.TypeBool; wants != (r.Intn(12) == 0) {
		v.Num = pick(r, bounds)
	}
	if v.Kind == api.TypeText != (r.Intn(12) == 0) {
		v.Text = pick(r, names)
	}
	count := 0
	if wants := v.Kind == api.TypeList || v.Kind == api.TypeRecord; depth > 0 && wants != (r.Intn(12) == 0) {
		count = r.Intn(4)
	}
	for range count {
		v.List = append(v.List, badValue(r, depth-1))
	}
	if v.Kind == api.TypeRecord != (r.Intn(12) == 0) {
		for range count + max(0, r.Intn(12)-10) {
			v.Names = append(v.Names, pick(r, names))
		}
	}
	return v
}

// changed returns s with a few bytes removed, inserted or replaced, or cut off.
func changed(r *rand.Rand, s string) string {
	pieces := []string{"0", "1", "9", "-", ".", "..", " ", ",", ", ", ":", ": ", "?", "|", "(", ")", "[", "]", "{", "}", "\"", "\\", "\\x", "\\x4", "\\x41", "\\x0f", "a", "b", "int", "text", "bool", "any", "enum(", "list 0..1 of ", "of", "[[[[", "[[", "false", "true", "4611686018427387905", "\x00", "\x7f", "\xff"}
	for range 1 + r.Intn(2) {
		from := r.Intn(len(s) + 1)
		to := min(len(s), from+r.Intn(3))
		switch r.Intn(4) {
		case 0:
			s = s[:from] + s[to:]
		case 1:
			s = s[:from] + pick(r, pieces) + s[from:]
		case 2:
			s = s[:from] + pick(r, pieces) + s[to:]
		case 3:
			s = s[:from]
		}
	}
	return s
}

// P22.1
func TestCheck(t *testing.T) {
	for _, c := range []struct {
		t    api.Type
		want api.Errno
	}{
		{whole, api.OK}, {num(0, 0), api.OK}, {num(-most, -most), api.OK}, {num(most, most), api.OK},
		{num(-most-1, 0), api.ErrRange}, {num(0, most+1), api.ErrRange}, {num(1, 0), api.ErrRange}, {num(math.MinInt, math.MaxInt), api.ErrRange},
		{words, api.OK}, {text(0, 0), api.OK}, {text(256, 256), api.OK},
		{text(-1, 4), api.ErrRange}, {text(0, 257), api.ErrRange}, {text(4, 3), api.ErrRange},
		{boolean, api.OK}, {whatso, api.OK},
		{enum("a"), api.OK}, {enum(many(16)...), api.OK}, {enum("sixteen-bytes-ab"), api.OK},
		{enum(), api.ErrRange}, {enum(many(17)...), api.ErrTooLong}, {enum("a", "A"), api.ErrName}, {enum(""), api.ErrName},
		{enum("seventeen-bytes-a"), api.ErrName}, {enum("b", "a"), api.ErrOrder}, {enum("a", "a"), api.ErrOrder}, {enum("a", "b", "ab"), api.ErrOrder},
		{list(0, 32, whole), api.OK}, {list(0, 0, whole), api.OK}, {list(32, 32, whole), api.OK},
		{list(-1, 1, whole), api.ErrRange}, {list(0, 33, whole), api.ErrRange}, {list(2, 1, whole), api.ErrRange},
		{list(0, 1, num(1, 0)), api.ErrRange}, {list(0, 1, enum("A")), api.ErrName}, {list(0, 1, api.Type{}), api.ErrKind},
		{record(), api.OK}, {record(must("a", whole), may("b", words)), api.OK}, {record(manyFields(16)...), api.OK},
		{record(manyFields(17)...), api.ErrTooLong}, {record(must("A", whole)), api.ErrName}, {record(must("", whole)), api.ErrName},
		{record(must("seventeen-bytes-a", whole)), api.ErrName}, {record(must("b", whole), must("a", whole)), api.ErrOrder},
		{record(must("a", whole), may("a", whole)), api.ErrOrder}, {record(may("a", num(1, 0))), api.ErrRange}, {record(must("a", api.Type{Kind: 8})), api.ErrKind},
		{api.Type{}, api.ErrKind}, {api.Type{Kind: 8}, api.ErrKind}, {api.Type{Kind: -1}, api.ErrKind}, {api.Type{Kind: math.MinInt}, api.ErrKind}, {api.Type{Kind: math.MaxInt}, api.ErrKind},
	} {
		if got := schema.Check(c.t); got != c.want {
			t.Errorf("Check(%v) = %v, want %v", c.t, got, c.want)
		}
	}
}

// P22.1, the fields that kinds do not use
func TestCheckUnused(t *testing.T) {
	good := []api.Type{whole, words, boolean, enum("a"), list(0, 1, whole), record(), whatso}
	for i, kind := range good {
		bounded := kind.Kind == api.TypeInt || kind.Kind == api.TypeText || kind.Kind == api.TypeList
		for change, c := range map[string]struct {
			spoil func(x *api.Type)
			used  bool
		}{
			"Min":     {func(x *api.Type) { x.Min = -1 }, bounded},
			"Max":     {func(x *api.Type) { x.Max = 1 }, bounded},
			"Options": {func(x *api.Type) { x.Options = []string{""} }, kind.Kind == api.TypeEnum},
			"Of":      {func(x *api.Type) { x.Of = append(x.Of[:len(x.Of):len(x.Of)], api.Type{}) }, false},
			"Fields":  {func(x *api.Type) { x.Fields = make([]api.Field, 1) }, kind.Kind == api.TypeRecord},
		} {
			x := kind
			c.spoil(&x)
			if got := schema.Check(x); !c.used && got != api.ErrField {
				t.Errorf("Check(kind %d with %s) = %v, want ErrField", i+1, change, got)
			}
		}
		kind.Options, kind.Fields = append([]string{}, kind.Options...), append([]api.Field{}, kind.Fields...)
		kind.Of = append([]api.Type{}, kind.Of...)
		if got := schema.Check(kind); got != api.OK {
			t.Errorf("Check(kind %d with empty lists) = %v, want OK", i+1, got)
		}
	}
	for _, of := range [][]api.Type{nil, {}, {whole, whole}, {api.Type{}, whole}} {
		if got := schema.Check(api.Type{Kind: api.TypeList, Of: of}); got != api.ErrField {
			t.Errorf("Check(list of %v) = %v, want ErrField", of, got)
		}
	}
}

// P22.1, the depth
func TestCheckDepth(t *testing.T) {
	mixed := func(depth int) api.Type { return record(must("a", list(0, 1, nestedRecord(depth-2)))) }
	for _, build := range []func(int) api.Type{nested, nestedRecord, mixed} {
		if got := schema.Check(build(6)); got != api.OK {
			t.Errorf("Check(depth 6) = %v", got)
		}
		for _, depth := range []int{7, 8, 20, 5000} {
			if got := schema.Check(build(depth)); got != api.ErrDepth {
				t.Errorf("Check(depth %d) = %v, want ErrDepth", depth, got)
			}
		}
	}
	deep := nested(6)
	for _, c := range []struct {
		name string
		t    api.Type
		want api.Errno
	}{
		{"second element type", api.Type{Kind: api.TypeList, Of: []api.Type{whole, deep}}, api.ErrDepth},
		{"second element type that is not too deep", api.Type{Kind: api.TypeList, Of: []api.Type{whole, nested(5)}}, api.ErrField},
		{"last field", record(must("A", api.Type{}), must("b", deep)), api.ErrDepth},
		{"too many fields", record(append(manyFields(17), must("A", deep))...), api.ErrDepth},
		{"bounds and depth", list(9, 3, deep), api.ErrDepth},
		{"unknown kind", api.Type{Kind: 8, Of: []api.Type{deep}, Fields: []api.Field{must("a", deep)}}, api.ErrKind},
		{"fields of a list", api.Type{Kind: api.TypeList, Of: []api.Type{whole}, Fields: []api.Field{must("a", deep)}}, api.ErrField},
		{"element types of a record", api.Type{Kind: api.TypeRecord, Of: []api.Type{deep}}, api.ErrField},
		{"element types of a number", api.Type{Kind: api.TypeInt, Of: []api.Type{deep}, Fields: []api.Field{must("a", deep)}}, api.ErrField},
	} {
		if got := schema.Check(c.t); got != c.want {
			t.Errorf("Check(%s) = %v, want %v", c.name, got, c.want)
		}
	}
}

// P22.1, the order of the errors
func TestCheckOrder(t *testing.T) {
	for _, c := range []struct {
		name string
		t    api.Type
		want api.Errno
	}{
		{"kind and fields", api.Type{Kind: 9, Min: 5, Max: 3, Options: []string{""}}, api.ErrKind},
		{"fields and range", api.Type{Kind: api.TypeInt, Min: 5, Max: 3, Options: []string{""}}, api.ErrField},
		{"fields and no options", api.Type{Kind: api.TypeEnum, Min: 5}, api.ErrField},
		{"too many bad options", enum(append(many(16), "A")...), api.ErrTooLong},
		{"order, then name", enum("b", "a", "A"), api.ErrOrder},
		{"name, then order", enum("b", "A", "a"), api.ErrName},
		{"a name that is bad and not greater", enum("b", ""), api.ErrName},
		{"bounds and element type", list(2, 1, enum("A")), api.ErrRange},
		{"fields of a list and its element type", api.Type{Kind: api.TypeList, Min: 2, Options: []string{""}, Of: []api.Type{{}}}, api.ErrField},
		{"too many bad fields", record(append(manyFields(16), must("A", api.Type{}))...), api.ErrTooLong},
		{"name and type", record(must("A", api.Type{})), api.ErrName},
		{"order and type", record(must("b", whole), must("a", api.Type{})), api.ErrOrder},
		{"type, then name", record(must("b", api.Type{}), must("A", whole)), api.ErrKind},
		{"type, then order", record(must("b", enum()), must("a", whole)), api.ErrRange},
		{"parts of parts first", record(must("a", list(0, 1, record(must("B", whole)))), must("a", whole)), api.ErrName},
	} {
		if got := schema.Check(c.t); got != c.want {
			t.Errorf("Check(%s) = %v, want %v", c.name, got, c.want)
		}
	}
}

// P22.1 and P22.2, types with any defects
func TestAnyTypes(t *testing.T) {
	r := rand.New(rand.NewSource(221))
	for range 60000 {
		x := badType(r, r.Intn(9))
		want, code := "", check(x)
		if got := schema.Check(x); got != code {
			t.Fatalf("Check(%v) = %v, want %v", x, got, code)
		}
		if code == api.OK {
			want = notation(x)
		}
		if got, e := schema.Print(x); got != want || e != code {
			t.Fatalf("Print(%v) = %q, %v, want %q, %v", x, got, e, want, code)
		}
	}
}

// printed are schemas with their notations.
var printed = []struct {
	t    api.Type
	text string
}{
	{whole, "int"}, {num(0, 0), "int 0..0"}, {num(-most, 0), "int -4611686018427387904..0"}, {num(0, most), "int 0..4611686018427387904"},
	{num(-12, -3), "int -12..-3"}, {num(10, 200), "int 10..200"},
	{words, "text"}, {text(0, 255), "text 0..255"}, {text(1, 256), "text 1..256"}, {text(0, 0), "text 0..0"},
	{boolean, "bool"}, {whatso, "any"},
	{enum("a"), "enum(a)"}, {enum("a", "b-2", "c3"), "enum(a|b-2|c3)"},
	{list(0, 32, whole), "list 0..32 of int"}, {list(1, 2, list(0, 0, num(1, 2))), "list 1..2 of list 0..0 of int 1..2"},
	{record(), "{}"}, {record(must("a", whole)), "{a: int}"}, {record(may("a", words)), "{a?: text}"},
	{record(must("name", text(1, 8)), may("port", num(1, 65535))), "{name: text 1..8, port?: int 1..65535}"},
	{record(must("a", record()), must("b", record(may("c", enum("x", "y"))))), "{a: {}, b: {c?: enum(x|y)}}"},
	{list(0, 2, record(must("a", list(1, 1, boolean)))), "list 0..2 of {a: list 1..1 of bool}"},
	{nested(6), "list 0..1 of list 0..1 of list 0..1 of list 0..1 of list 0..1 of int"},
	{nestedRecord(6), "{a: {a: {a: {a: {a: int}}}}}"},
	{record(must("int", words), must("list", boolean)), "{int: text, list: bool}"},
}

// P22.2 and P22.3, notations of all kinds
func TestPrintAndParse(t *testing.T) {
	for _, c := range printed {
		if got, code := schema.Print(c.t); got != c.text || code != api.OK {
			t.Errorf("Print(%v) = %q, %v, want %q", c.t, got, code, c.text)
		}
		if got, at, code := schema.Parse(c.text); !same(got, c.t) || at != 0 || code != api.OK {
			t.Errorf("Parse(%q) = %v, %d, %v, want %v", c.text, got, at, code, c.t)
		}
	}
}

// P22.2, errors
func TestPrintErrors(t *testing.T) {
	for _, c := range []struct {
		t    api.Type
		want api.Errno
	}{
		{api.Type{}, api.ErrKind}, {num(9, 5), api.ErrRange}, {enum("b", "a"), api.ErrOrder}, {nested(7), api.ErrDepth},
		{record(must("a", enum("A"))), api.ErrName}, {api.Type{Kind: api.TypeList}, api.ErrField}, {enum(many(17)...), api.ErrTooLong},
	} {
		if got, code := schema.Print(c.t); got != "" || code != c.want {
			t.Errorf("Print(%v) = %q, %v, want %v", c.t, got, code, c.want)
		}
	}
}

// P22.3, the chapter's examples and the positions of errors
func TestParseErrors(t *testing.T) {
	five := strings.Repeat("list 0..1 of ", 5)
	for _, c := range []struct {
		text string
		at   int
		code api.Errno
	}{
		{"int 5..x", 7, api.ErrSyntax}, {"int 5..", 7, api.ErrSyntax}, {"int 05..9", 5, api.ErrSyntax}, {"int 9..5", 0, api.ErrRange},
		{"list 0..4 of an", 15, api.ErrSyntax}, {"enum(b|a)", 0, api.ErrOrder}, {"text 0..256", 0, api.ErrSyntax},
		{"", 0, api.ErrSyntax}, {" ", 0, api.ErrSyntax}, {" int", 0, api.ErrSyntax}, {"x", 0, api.ErrSyntax}, {"\x00", 0, api.ErrSyntax}, {"]", 0, api.ErrSyntax}, {"\xff", 0, api.ErrSyntax},
		{"in", 2, api.ErrSyntax}, {"inu", 2, api.ErrSyntax}, {"intx", 3, api.ErrSyntax}, {"int,", 3, api.ErrSyntax}, {"int ", 4, api.ErrSyntax}, {"int  1..2", 4, api.ErrSyntax},
		{"int x", 4, api.ErrSyntax}, {"int 5", 5, api.ErrSyntax}, {"int 5 ", 5, api.ErrSyntax}, {"int 5.", 6, api.ErrSyntax}, {"int 5.6", 6, api.ErrSyntax}, {"int 5...6", 7, api.ErrSyntax},
		{"int 5..6 ", 8, api.ErrSyntax}, {"int 5..6x", 8, api.ErrSyntax}, {"int 1..02", 8, api.ErrSyntax}, {"int 0..-0", 8, api.ErrSyntax}, {"int -", 5, api.ErrSyntax}, {"int -x", 5, api.ErrSyntax}, {"int --1..2", 5, api.ErrSyntax},
		{"int -0..2", 5, api.ErrSyntax}, {"int -01..2", 5, api.ErrSyntax}, {"int +1..2", 4, api.ErrSyntax}, {"int 00..2", 5, api.ErrSyntax},
		{"int 4611686018427387905..x", 4, api.ErrRange}, {"int -4611686018427387905", 4, api.ErrRange}, {"int 1..4611686018427387905x", 7, api.ErrRange},
		{"int 1..99999999999999999999999", 7, api.ErrRange}, {"int 9223372036854775808..0", 4, api.ErrRange}, {"int 18446744073709551617..18446744073709551618", 4, api.ErrRange},
		{"int 5..4611686018427387904", 0, api.OK}, {"int -4611686018427387904..4611686018427387904", 0, api.ErrSyntax},
		{"text -1..3", 0, api.ErrRange}, {"text 0..257", 0, api.ErrRange}, {"text 4..3", 0, api.ErrRange}, {"text 0..4611686018427387905", 8, api.ErrRange}, {"tex", 3, api.ErrSyntax}, {"texts", 4, api.ErrSyntax},
		{"boo", 3, api.ErrSyntax}, {"bool ", 4, api.ErrSyntax}, {"bool 0..1", 4, api.ErrSyntax}, {"any?", 3, api.ErrSyntax}, {"an", 2, api.ErrSyntax},
		{"enum", 4, api.ErrSyntax}, {"enum(", 5, api.ErrSyntax}, {"enum()", 5, api.ErrSyntax}, {"enum(A)", 5, api.ErrSyntax}, {"enum(1)", 5, api.ErrSyntax}, {"enum(-a)", 5, api.ErrSyntax}, {"enum(a", 6, api.ErrSyntax}, {"enum(a,b)", 6, api.ErrSyntax},
		{"enum(a|)", 7, api.ErrSyntax}, {"enum(a|b", 8, api.ErrSyntax}, {"enum(a|b))", 9, api.ErrSyntax}, {"enum(aB)", 6, api.ErrSyntax}, {"enum(a|a)", 0, api.ErrOrder}, {"enum(a |b)", 6, api.ErrSyntax},
		{"enum(seventeen-bytes-a)", 0, api.ErrName}, {"enum(sixteen-bytes-ab)", 0, api.OK}, {"enum(" + strings.Join(many(17), "|") + ")", 0, api.ErrTooLong}, {"enum(" + strings.Join(many(17), "|"), 55, api.ErrSyntax},
		{"list", 4, api.ErrSyntax}, {"list of int", 5, api.ErrSyntax}, {"list 0..1", 9, api.ErrSyntax}, {"list 0..1 int", 10, api.ErrSyntax}, {"list 0..1 of", 12, api.ErrSyntax}, {"list 0..1 of ", 13, api.ErrSyntax}, {"list 0..33 of int", 0, api.ErrRange}, {"list 2..1 of int", 0, api.ErrRange},
		{"list 0..1 of int 2..1", 0, api.ErrRange}, {"list 2..1 of enum(b|a)", 0, api.ErrRange}, {"list 0..1 of enum(b|a)", 0, api.ErrOrder}, {"list 0..1 of text 0..256", 0, api.ErrSyntax}, {"list 0..1 of int,", 16, api.ErrSyntax},
		{"{", 1, api.ErrSyntax}, {"{ }", 1, api.ErrSyntax}, {"{}}", 2, api.ErrSyntax}, {"{,}", 1, api.ErrSyntax}, {"{A: int}", 1, api.ErrSyntax}, {"{a", 2, api.ErrSyntax}, {"{a}", 2, api.ErrSyntax}, {"{a:int}", 3, api.ErrSyntax}, {"{a??: int}", 3, api.ErrSyntax}, {"{a?}", 3, api.ErrSyntax},
		{"{a ?: int}", 2, api.ErrSyntax}, {"{a:  int}", 4, api.ErrSyntax}, {"{a: int", 7, api.ErrSyntax}, {"{a: int ", 8, api.ErrSyntax}, {"{a: int }", 8, api.ErrSyntax}, {"{a: int,b: int}", 8, api.ErrSyntax}, {"{a: int, }", 9, api.ErrSyntax}, {"{a: int,  b: int}", 9, api.ErrSyntax}, {"{a: int, b: int", 15, api.ErrSyntax},
		{"{b: int, a: int}", 0, api.ErrOrder}, {"{a: int, a: int}", 0, api.ErrOrder}, {"{seventeen-bytes-a: int}", 0, api.ErrName}, {"{a: {b: enum(d|c)}}", 0, api.ErrOrder}, {"{b: int, a: int 05..9}", 17, api.ErrSyntax},
		{"{a: text 0..256}", 0, api.ErrSyntax}, {"{a: text 0..256, A: int}", 17, api.ErrSyntax}, {"{b: text 0..256, a: int}", 0, api.ErrOrder},
		{five + "any", 0, api.OK}, {five + "list 0..1 of any", 78, api.ErrDepth}, {five + "list 0..1 of ", 78, api.ErrDepth}, {five + "list 0..1 of", 77, api.ErrSyntax}, {five + "list 0..1 of x", 78, api.ErrDepth}, {five + "{}", 0, api.OK},
		{five + "{a: ", 69, api.ErrDepth}, {five + "{a: int}", 69, api.ErrDepth}, {five + "{a:int}", 68, api.ErrSyntax}, {five + "{A", 66, api.ErrSyntax}, {five, 65, api.ErrSyntax},
		{"{a: {a: {a: {a: {a: {a: {", 24, api.ErrDepth}, {"{b: int, a: {a: {a: {a: {a: {a: int", 32, api.ErrDepth},
	} {
		got, at, code := schema.Parse(c.text)
		if at != c.at || code != c.code {
			t.Errorf("Parse(%q) = %d, %v, want %d, %v", c.text, at, code, c.at, c.code)
		}
		if code != api.OK && !reflect.DeepEqual(got, api.Type{}) {
			t.Errorf("Parse(%q) = %v with the error %v", c.text, got, code)
		}
	}
}

// P22.3, notations of types with any defects that a notation shows
func TestParseAnyTypes(t *testing.T) {
	r := rand.New(rand.NewSource(223))
	shown := func(x api.Type) bool {
		_, code := fault(notation(x), symbol{kind: "type", depth: 1})
		return code == api.OK
	}
	tried := 0
	for tried < 8000 {
		x := badType(r, r.Intn(5))
		if code := check(x); code == api.ErrKind || code == api.ErrField || depthOf(x) > 6 || hidden(x) || !shown(x) {
			continue
		}
		tried++
		text, want, code := notation(x), x, check(x)
		if code != api.OK {
			want = api.Type{}
		}
		if got, at, e := schema.Parse(text); !same(got, want) || at != 0 || e != code {
			t.Fatalf("Parse(%q) = %v, %d, %v, want %v, 0, %v", text, got, at, e, want, code)
		}
	}
}

// hidden reports whether a type or a part of it has an unknown kind or fields that its notation does not show.
func hidden(x api.Type) bool {
	bare := api.Type{Kind: x.Kind, Of: x.Of, Fields: x.Fields}
	switch x.Kind {
	case api.TypeInt, api.TypeText:
		bare.Min, bare.Max, bare.Of, bare.Fields = x.Min, x.Max, nil, nil
	case api.TypeList:
		bare.Min, bare.Max, bare.Fields = x.Min, x.Max, nil
	case api.TypeEnum:
		bare.Options, bare.Of, bare.Fields = x.Options, nil, nil
	case api.TypeRecord:
		bare.Of = nil
	case api.TypeBool, api.TypeAny:
		bare.Of, bare.Fields = nil, nil
	default:
		return true
	}
	if x.Kind == api.TypeList && len(x.Of) != 1 || !same(bare, x) {
		return true
	}
	return slices.ContainsFunc(bare.Of, hidden) || slices.ContainsFunc(bare.Fields, func(f api.Field) bool { return hidden(f.Type) })
}

// P22.3, strings that are notations but for a few bytes; P22.8: what is accepted is the notation of the result
func TestParseAnyText(t *testing.T) {
	r := rand.New(rand.NewSource(224))
	for range 12000 {
		text := changed(r, notation(goodType(r, 1+r.Intn(6))))
		at, code := fault(text, symbol{kind: "type", depth: 1})
		got, where, e := schema.Parse(text)
		if code != api.OK && (where != at || e != code || !reflect.DeepEqual(got, api.Type{})) {
			t.Fatalf("Parse(%q) = %v, %d, %v, want %d, %v", text, got, where, e, at, code)
		}
		if code != api.OK {
			continue
		}
		if where != 0 || e == api.OK && (check(got) != api.OK || notation(got) != text) {
			t.Fatalf("Parse(%q) = %v, %d, %v", text, got, where, e)
		}
		if e != api.OK && !reflect.DeepEqual(got, api.Type{}) {
			t.Fatalf("Parse(%q) = %v with the error %v", text, got, e)
		}
	}
}

// P22.8: Parse recovers each schema from its notation
func TestParseRecovers(t *testing.T) {
	r := rand.New(rand.NewSource(225))
	for range 20000 {
		x := goodType(r, 1+r.Intn(6))
		text, code := schema.Print(x)
		if got, at, e := schema.Parse(text); code != api.OK || at != 0 || e != api.OK || !same(got, x) {
			t.Fatalf("Parse(%q) = %v, %d, %v, want %v", text, got, at, e, x)
		}
	}
}

// sized returns a schema whose notation has so many bytes, from about 30000 on.
func sized(t *testing.T, bytes int) api.Type {
	t.Helper()
	inner := func() api.Type {
		x := record()
		for i := range 16 {
			x.Fields = append(x.Fields, must(letters[i:i+1], whatso))
		}
		return x
	}
	x := record()
	for i := range 16 {
		middle := record()
		for k := range 16 {
			middle.Fields = append(middle.Fields, must(letters[k:k+1], inner()))
		}
		x.Fields = append(x.Fields, must(letters[i:i+1], middle))
	}
	missing := bytes - len(notation(x))
	for i := range x.Fields {
		for k := range x.Fields[i].Type.Fields {
			fields := x.Fields[i].Type.Fields[k].Type.Fields
			for f := range fields {
				add := min(missing, 15)
				fields[f].Name += strings.Repeat("x", add)
				missing -= add
			}
		}
	}
	if got := len(notation(x)); got != bytes {
		t.Fatalf("the notation has %d bytes, want %d", got, bytes)
	}
	return x
}

// P22.2, P22.3 and P22.8: the longest strings
func TestParseLong(t *testing.T) {
	fit, long := sized(t, api.MaxText), sized(t, api.MaxText+1)
	text, code := schema.Print(fit)
	if code != api.OK || text != notation(fit) {
		t.Fatalf("Print of %d bytes = %v", len(text), code)
	}
	if got, at, code := schema.Parse(text); !same(got, fit) || at != 0 || code != api.OK {
		t.Errorf("Parse of %d bytes = %d, %v", len(text), at, code)
	}
	if text, code = schema.Print(long); code != api.OK || text != notation(long) {
		t.Fatalf("Print of %d bytes = %v", len(text), code)
	}
	for _, c := range []struct {
		name, text string
		at         int
		code       api.Errno
	}{
		{"too long", text, 0, api.ErrTooLong},
		{"too long and wrong", strings.Repeat("x", api.MaxText+1), 0, api.ErrTooLong},
		{"wrong at its end", text[:api.MaxText], api.MaxText, api.ErrSyntax},
		{"a long number", "int " + strings.Repeat("9", api.MaxText-4), 4, api.ErrRange},
		{"a long name", "{" + strings.Repeat("a", api.MaxText-1), api.MaxText, api.ErrSyntax},
		{"a long name in a type", "{" + strings.Repeat("a", api.MaxText-7) + ": any}", 0, api.ErrName},
		{"many options", "enum(" + strings.Repeat("a|", api.MaxText/2-3) + ")", api.MaxText - 1, api.ErrSyntax},
		{"deep lists", strings.Repeat("list 0..1 of ", 5000), 78, api.ErrDepth},
	} {
		got, at, code := schema.Parse(c.text)
		if !reflect.DeepEqual(got, api.Type{}) || at != c.at || code != c.code {
			t.Errorf("Parse of %s = %d, %v, want %d, %v", c.name, at, code, c.at, c.code)
		}
	}
}

// written are valid values with their notations.
var written = []struct {
	v    api.Value
	text string
}{
	{n(0), "0"}, {n(-1), "-1"}, {n(10), "10"}, {n(most), "4611686018427387904"}, {n(-most), "-4611686018427387904"},
	{s(""), `""`}, {s("a b"), `"a b"`}, {s(`a"b`), `"a\"b"`}, {s(`\`), `"\\"`}, {s("\x00\x1f\x7f\xff"), `"\x00\x1f\x7f\xff"`}, {s(" ~"), `" ~"`}, {s("é"), `"\xc3\xa9"`}, {s(`\x41`), `"\\x41"`},
	{truth(0), "false"}, {truth(1), "true"},
	{l(), "[]"}, {l(n(1), n(-2), s(`a"b`)), `[1,-2,"a\"b"]`}, {l(l(), l(l()), truth(1)), "[[],[[]],true]"}, {l(l(l(l(l(l()))))), "[[[[[[]]]]]]"},
	{rec(""), "{}"}, {rec("a", n(1)), "{a:1}"}, {rec("a b-2 sixteen-bytes-ab", s("x"), l(), rec("")), `{a:"x",b-2:[],sixteen-bytes-ab:{}}`},
	{rec("false true", truth(1), truth(0)), "{false:true,true:false}"}, {nestedValue(6), "[[[[[1]]]]]"}, {nestedNames(6), "{a:{a:{a:{a:{a:1}}}}}"},
}

// P22.4 and P22.5, notations of all kinds
func TestWriteAndValue(t *testing.T) {
	for _, c := range written {
		if got, code := schema.Write(c.v); got != c.text || code != api.OK {
			t.Errorf("Write(%v) = %q, %v, want %q", c.v, got, code, c.text)
		}
		if got, at, code := schema.Value(c.text); !same(got, c.v) || at != 0 || code != api.OK {
			t.Errorf("Value(%q) = %v, %d, %v, want %v", c.text, got, at, code, c.v)
		}
	}
	for c := range 256 {
		v := s(string([]byte{'a', byte(c), 'b'}))
		text, code := schema.Write(v)
		if text != quoted(v.Text) || code != api.OK {
			t.Errorf("Write(byte %d) = %q, %v", c, text, code)
		}
		if got, _, code := schema.Value(text); !same(got, v) || code != api.OK {
			t.Errorf("Value(%q) = %v, %v", text, got, code)
		}
	}
}

// P22.4, each error, and their order
func TestWriteErrors(t *testing.T) {
	long := s(strings.Repeat("a", api.MaxText))
	for _, c := range []struct {
		name string
		v    api.Value
		want api.Errno
	}{
		{"no kind", api.Value{}, api.ErrKind}, {"enum", api.Value{Kind: api.TypeEnum}, api.ErrKind}, {"any", api.Value{Kind: api.TypeAny}, api.ErrKind},
		{"kind 8", api.Value{Kind: 8}, api.ErrKind}, {"kind -1", api.Value{Kind: -1}, api.ErrKind}, {"kind and fields", api.Value{Num: 5, Text: "a"}, api.ErrKind},
		{"number with text", api.Value{Kind: api.TypeInt, Text: "a"}, api.ErrField}, {"number with names", api.Value{Kind: api.TypeInt, Names: []string{"a"}}, api.ErrField}, {"number with a list", api.Value{Kind: api.TypeInt, List: []api.Value{n(1)}}, api.ErrField},
		{"string with a number", api.Value{Kind: api.TypeText, Num: 1}, api.ErrField}, {"string with names", api.Value{Kind: api.TypeText, Names: []string{"a"}}, api.ErrField}, {"string with a list", api.Value{Kind: api.TypeText, List: []api.Value{n(1)}}, api.ErrField},
		{"Boolean with text", api.Value{Kind: api.TypeBool, Text: "a"}, api.ErrField}, {"Boolean with names", api.Value{Kind: api.TypeBool, Names: []string{"a"}}, api.ErrField}, {"Boolean with a list", api.Value{Kind: api.TypeBool, List: []api.Value{n(1)}}, api.ErrField},
		{"list with a number", api.Value{Kind: api.TypeList, Num: 1}, api.ErrField}, {"list with text", api.Value{Kind: api.TypeList, Text: "a"}, api.ErrField}, {"list with names", api.Value{Kind: api.TypeList, Names: []string{"a"}, List: []api.Value{n(1)}}, api.ErrField},
		{"record with a number", api.Value{Kind: api.TypeRecord, Num: 1}, api.ErrField}, {"record with text", api.Value{Kind: api.TypeRecord, Text: "a"}, api.ErrField}, {"record without elements", rec("a"), api.ErrField}, {"record without names", rec("", n(1)), api.ErrField}, {"record with more names", rec("a b", n(1)), api.ErrField},
		{"number too small", n(-most - 1), api.ErrRange}, {"number too large", n(most + 1), api.ErrRange}, {"least number", n(math.MinInt), api.ErrRange},
		{"Boolean 2", truth(2), api.ErrRange}, {"Boolean -1", truth(-1), api.ErrRange}, {"fields and range", api.Value{Kind: api.TypeBool, Num: 2, Text: "a"}, api.ErrField},
		{"bad element", l(n(1), truth(2)), api.ErrRange}, {"elements in order", l(n(1), api.Value{}, truth(2)), api.ErrKind}, {"parts of parts first", l(l(truth(2)), api.Value{}), api.ErrRange},
		{"bad name", rec("A", n(1)), api.ErrName}, {"empty name", api.Value{Kind: api.TypeRecord, Names: []string{""}, List: []api.Value{n(1)}}, api.ErrName}, {"long name", rec("seventeen-bytes-a", n(1)), api.ErrName},
		{"order", rec("b a", n(1), n(1)), api.ErrOrder}, {"same name", rec("a a", n(1), n(1)), api.ErrOrder}, {"bad name that is not greater", rec("b A", n(1), n(1)), api.ErrName},
		{"bad element of a record", rec("a", truth(2)), api.ErrRange}, {"name and element", rec("A", truth(2)), api.ErrName}, {"order and element", rec("b a", n(1), truth(2)), api.ErrOrder}, {"element, then name", rec("b A", truth(2), n(1)), api.ErrRange},
		{"names and their number", rec("A B", n(1)), api.ErrField},
		{"depth of lists", nestedValue(7), api.ErrDepth}, {"depth of records", nestedNames(7), api.ErrDepth}, {"great depth", nestedValue(5000), api.ErrDepth},
		{"depth and first element", l(api.Value{}, nestedValue(6)), api.ErrDepth}, {"depth and fields", api.Value{Kind: api.TypeList, Num: 1, List: []api.Value{nestedValue(6)}}, api.ErrDepth}, {"depth and names", rec("A", nestedValue(6)), api.ErrDepth},
		{"depth that does not count", api.Value{Kind: api.TypeInt, List: []api.Value{nestedValue(6)}}, api.ErrField}, {"depth without a kind", api.Value{List: []api.Value{nestedValue(6)}}, api.ErrKind},
		{"too long", long, api.ErrTooLong}, {"too long, then another error", l(long, truth(2)), api.ErrRange}, {"too long in a record", rec("a A", long, n(1)), api.ErrName}, {"too long and depth", l(long, nestedValue(6)), api.ErrDepth},
	} {
		if got, code := schema.Write(c.v); got != "" || code != c.want {
			t.Errorf("Write(%s) = %.20q, %v, want %v", c.name, got, code, c.want)
		}
	}
}

// P22.4 and P22.5, the longest notations
func TestWriteLong(t *testing.T) {
	ones := func(count int) api.Value {
		v := l()
		for range count {
			v.List = append(v.List, n(1))
		}
		return v
	}
	for _, c := range []struct {
		name  string
		v     func(more int) api.Value
		bytes int
	}{
		{"string", func(more int) api.Value { return s(strings.Repeat("a", api.MaxText-2+more)) }, 1},
		{"quotes", func(more int) api.Value { return s(strings.Repeat(`"`, api.MaxText/2-1+more)) }, 2},
		{"escapes", func(more int) api.Value { return s(strings.Repeat("\x00", api.MaxText/4-1+more) + "ab") }, 4},
		{"string in a list", func(more int) api.Value { return l(n(-1), s(strings.Repeat("a", api.MaxText-7+more))) }, 1},
		{"string in a record", func(more int) api.Value {
			return rec("a bc", n(1), s(strings.Repeat("a", api.MaxText-11+more)))
		}, 1},
		{"list and a string", func(more int) api.Value { return l(ones(api.MaxText/2-11), s(strings.Repeat("a", 16+more))) }, 1},
		{"names", func(more int) api.Value {
			return rec("a "+strings.Repeat("b", 10+more), s(strings.Repeat("a", api.MaxText-19)), n(1))
		}, 1},
	} {
		fit, long := c.v(0), c.v(1)
		text, code := schema.Write(fit)
		if len(payload(fit)) != api.MaxText || text != payload(fit) || code != api.OK {
			t.Errorf("Write of a %s with %d bytes = %d bytes, %v", c.name, len(payload(fit)), len(text), code)
		}
		if got, at, code := schema.Value(text); !same(got, fit) || at != 0 || code != api.OK {
			t.Errorf("Value of a %s = %d, %v", c.name, at, code)
		}
		if text, code := schema.Write(long); text != "" || code != api.ErrTooLong || len(payload(long)) != api.MaxText+c.bytes {
			t.Errorf("Write of a %s with %d bytes = %d bytes, %v", c.name, len(payload(long)), len(text), code)
		}
		if got, at, code := schema.Value(payload(long)); !same(got, api.Value{}) || at != 0 || code != api.ErrTooLong {
			t.Errorf("Value of a long %s = %d, %v", c.name, at, code)
		}
	}
	if text, code := schema.Write(s(strings.Repeat("a", 10*api.MaxText))); text != "" || code != api.ErrTooLong {
		t.Errorf("Write of a very long string = %d bytes, %v", len(text), code)
	}
}

// P22.4, values with any defects
func TestAnyValues(t *testing.T) {
	r := rand.New(rand.NewSource(226))
	for range 60000 {
		v := badValue(r, r.Intn(9))
		want, code := "", checkValue(v)
		if code == api.OK {
			want = payload(v)
		}
		if got, e := schema.Write(v); got != want || e != code {
			t.Fatalf("Write(%v) = %q, %v, want %q, %v", v, got, e, want, code)
		}
	}
}

// P22.5, the chapter's examples and the positions of errors
func TestValueErrors(t *testing.T) {
	for _, c := range []struct {
		text string
		at   int
		code api.Errno
	}{
		{"[1,]", 3, api.ErrSyntax}, {"{b:1,a:2}", 5, api.ErrOrder}, {`"\x41"`, 1, api.ErrSyntax}, {"4611686018427387905", 0, api.ErrRange}, {"01", 1, api.ErrSyntax},
		{"[[[[[[1]]]]]]", 6, api.ErrDepth}, {"[[[[[[]]]]]]", 0, api.OK}, {"[[[[[[", 6, api.ErrDepth},
		{"", 0, api.ErrSyntax}, {" 1", 0, api.ErrSyntax}, {"1 ", 1, api.ErrSyntax}, {"\x00", 0, api.ErrSyntax}, {"a", 0, api.ErrSyntax}, {"]", 0, api.ErrSyntax}, {",", 0, api.ErrSyntax}, {"1,2", 1, api.ErrSyntax}, {"\xff", 0, api.ErrSyntax},
		{"-", 1, api.ErrSyntax}, {"-0", 1, api.ErrSyntax}, {"-01", 1, api.ErrSyntax}, {"--1", 1, api.ErrSyntax}, {"+1", 0, api.ErrSyntax}, {"00", 1, api.ErrSyntax}, {"1.5", 1, api.ErrSyntax}, {"1e3", 1, api.ErrSyntax}, {"0x1", 1, api.ErrSyntax}, {"-x", 1, api.ErrSyntax},
		{"-4611686018427387905", 0, api.ErrRange}, {"9223372036854775808", 0, api.ErrRange}, {"18446744073709551617", 0, api.ErrRange}, {"[1,4611686018427387905", 3, api.ErrRange}, {"{a:-4611686018427387905x", 3, api.ErrRange}, {"46116860184273879040", 0, api.ErrRange},
		{"tru", 3, api.ErrSyntax}, {"trux", 3, api.ErrSyntax}, {"True", 0, api.ErrSyntax}, {"truee", 4, api.ErrSyntax}, {"fals", 4, api.ErrSyntax}, {"falte", 3, api.ErrSyntax}, {"null", 0, api.ErrSyntax},
		{`"`, 1, api.ErrSyntax}, {`"a`, 2, api.ErrSyntax}, {`"a"b`, 3, api.ErrSyntax}, {"\"\x1f\"", 1, api.ErrSyntax}, {"\"\x7f\"", 1, api.ErrSyntax}, {"\"a\xc3\xa9\"", 2, api.ErrSyntax}, {"\"a\x00\"", 2, api.ErrSyntax}, {`'a'`, 0, api.ErrSyntax},
		{`"\`, 2, api.ErrSyntax}, {`"\n"`, 2, api.ErrSyntax}, {`"\x`, 3, api.ErrSyntax}, {`"\xg0"`, 3, api.ErrSyntax}, {`"\x0`, 4, api.ErrSyntax}, {`"\x0"`, 4, api.ErrSyntax}, {`"\x0g"`, 4, api.ErrSyntax}, {`"\x0A"`, 4, api.ErrSyntax}, {`"\X0a"`, 2, api.ErrSyntax},
		{`"\x0a`, 5, api.ErrSyntax}, {`"\x0a"`, 0, api.OK}, {`"\x1f"`, 0, api.OK}, {`"\x20"`, 1, api.ErrSyntax}, {`"\x7e"`, 1, api.ErrSyntax}, {`"\x7f"`, 0, api.OK}, {`"\x22"`, 1, api.ErrSyntax}, {`"\x5c`, 1, api.ErrSyntax}, {`"\x4`, 4, api.ErrSyntax}, {`"\x4g"`, 4, api.ErrSyntax}, {`"ab\x41`, 3, api.ErrSyntax},
		{"[", 1, api.ErrSyntax}, {"[ ]", 1, api.ErrSyntax}, {"[,]", 1, api.ErrSyntax}, {"[1", 2, api.ErrSyntax}, {"[1,", 3, api.ErrSyntax}, {"[1 ,2]", 2, api.ErrSyntax}, {"[1, 2]", 3, api.ErrSyntax}, {"[1}", 2, api.ErrSyntax}, {"[1,2]]", 5, api.ErrSyntax}, {"[1;2]", 2, api.ErrSyntax}, {"[01]", 2, api.ErrSyntax}, {"[]]", 2, api.ErrSyntax},
		{"{", 1, api.ErrSyntax}, {"{ }", 1, api.ErrSyntax}, {"{,}", 1, api.ErrSyntax}, {"{a", 2, api.ErrSyntax}, {"{a}", 2, api.ErrSyntax}, {"{a:", 3, api.ErrSyntax}, {"{a:}", 3, api.ErrSyntax}, {"{a: 1}", 3, api.ErrSyntax}, {"{A:1}", 1, api.ErrSyntax}, {"{1:1}", 1, api.ErrSyntax}, {"{-:1}", 1, api.ErrSyntax}, {"{\"a\":1}", 1, api.ErrSyntax},
		{"{a?:1}", 2, api.ErrSyntax}, {"{a:1", 4, api.ErrSyntax}, {"{a:1,", 5, api.ErrSyntax}, {"{a:1,}", 5, api.ErrSyntax}, {"{a:1, b:2}", 5, api.ErrSyntax}, {"{a:1]", 4, api.ErrSyntax}, {"{aB:1}", 2, api.ErrSyntax}, {"{}}", 2, api.ErrSyntax}, {"{a:1}}", 5, api.ErrSyntax}, {"{a:1,B:2}", 5, api.ErrSyntax},
		{"{seventeen-bytes-a:1}", 1, api.ErrName}, {"{seventeen-bytes-a", 1, api.ErrName}, {"{sixteen-bytes-ab:1}", 0, api.OK}, {"{sixteen-bytes-ab", 17, api.ErrSyntax}, {"{b:1,aaaaaaaaaaaaaaaaa", 5, api.ErrName}, {"{seventeen-bytes-aA", 1, api.ErrName},
		{"{b:1,a", 5, api.ErrOrder}, {"{b:1,b:1}", 5, api.ErrOrder}, {"{b:1,b", 5, api.ErrOrder}, {"{b:1,ba", 7, api.ErrSyntax}, {"{b:1,aB", 5, api.ErrOrder}, {"{b:{a:1},a:2}", 9, api.ErrOrder}, {"{b:{c:1},c:2}", 0, api.OK}, {"{b:{b:1,a:1},c:2}", 8, api.ErrOrder}, {"[{b:1},{a:1}]", 0, api.OK}, {"{a:1,c:1,b:1}", 9, api.ErrOrder},
		{"[[[[[[x", 6, api.ErrDepth}, {"[[[[[[,", 6, api.ErrDepth}, {"[[[[[[}", 6, api.ErrDepth}, {"[[[[[[]", 7, api.ErrSyntax}, {"[[[[[1,", 7, api.ErrSyntax}, {"[[[[[[[[[[", 6, api.ErrDepth}, {"[[[[[{}]]]]]", 0, api.OK}, {"[[[[[{a", 7, api.ErrSyntax}, {"[[[[[{a:", 8, api.ErrDepth}, {"[[[[[{a:1}]]]]]", 8, api.ErrDepth}, {"[[[[[{A:1}", 6, api.ErrSyntax},
		{"[[[[[[],[1]]]]]]", 9, api.ErrDepth}, {"{a:{a:{a:{a:{a:{a:", 18, api.ErrDepth}, {"{a:{a:{a:{a:{a:[", 16, api.ErrDepth}, {"{a:{a:{a:{a:{a:[]}}}}}", 0, api.OK},
	} {
		got, at, code := schema.Value(c.text)
		if at != c.at || code != c.code {
			t.Errorf("Value(%q) = %d, %v, want %d, %v", c.text, at, code, c.at, c.code)
		}
		if code != api.OK && !reflect.DeepEqual(got, api.Value{}) {
			t.Errorf("Value(%q) = %v with the error %v", c.text, got, code)
		}
		if at, code := fault(c.text, symbol{kind: "value", depth: 1}); code != c.code || code != api.OK && at != c.at {
			t.Errorf("the first error of %q is %v at %d", c.text, code, at)
		}
	}
}

// P22.5, strings that are notations but for a few bytes; P22.8: what is accepted is the notation of the result
func TestValueAnyText(t *testing.T) {
	r := rand.New(rand.NewSource(227))
	for range 8000 {
		text := payload(goodValue(r, 1+r.Intn(6)))
		if r.Intn(9) > 0 {
			text = changed(r, text)
		}
		at, code := fault(text, symbol{kind: "value", depth: 1})
		got, where, e := schema.Value(text)
		if code == api.OK {
			if where != 0 || e != api.OK || checkValue(got) != api.OK || payload(got) != text {
				t.Fatalf("Value(%q) = %v, %d, %v", text, got, where, e)
			}
			continue
		}
		if where != at || e != code || !reflect.DeepEqual(got, api.Value{}) {
			t.Fatalf("Value(%q) = %v, %d, %v, want %d, %v", text, got, where, e, at, code)
		}
	}
}

// P22.5, all short strings of some bytes
func TestValueShortText(t *testing.T) {
	for _, set := range []string{`{}[],:ab01-`, `"\x04fg[`, "fals[],1"} {
		texts := []string{""}
		for range 5 {
			var longer []string
			for _, text := range texts {
				at, code := fault(text, symbol{kind: "value", depth: 1})
				got, where, e := schema.Value(text)
				if e != code || code != api.OK && where != at || code == api.OK && payload(got) != text {
					t.Fatalf("Value(%q) = %v, %d, %v, want %d, %v", text, got, where, e, at, code)
				}
				// What follows an error that does not end the string changes nothing.
				if code == api.OK || at == len(text) || len(text) < 3 {
					for i := range len(set) {
						longer = append(longer, text+set[i:i+1])
					}
				}
			}
			texts = longer
		}
	}
}

// P22.5, very long strings
func TestValueLong(t *testing.T) {
	for _, c := range []struct {
		name, text string
		at         int
		code       api.Errno
	}{
		{"wrong and too long", strings.Repeat("x", api.MaxText+1), 0, api.ErrTooLong},
		{"lists", strings.Repeat("[", api.MaxText), 6, api.ErrDepth},
		{"numbers", "[" + strings.Repeat("1,", api.MaxText/2-1), api.MaxText - 1, api.ErrSyntax},
		{"digits", strings.Repeat("1", api.MaxText), 0, api.ErrRange},
		{"zeros", strings.Repeat("0", api.MaxText), 1, api.ErrSyntax},
		{"a name", "{" + strings.Repeat("a", api.MaxText-1), 1, api.ErrName},
		{"a string", `"` + strings.Repeat("a", api.MaxText-1), api.MaxText, api.ErrSyntax},
	} {
		if got, at, code := schema.Value(c.text); !same(got, api.Value{}) || at != c.at || code != c.code {
			t.Errorf("Value of %s = %d, %v, want %d, %v", c.name, at, code, c.at, c.code)
		}
	}
}

// P22.8: Value recovers each valid value from its notation
func TestValueRecovers(t *testing.T) {
	r := rand.New(rand.NewSource(228))
	for range 20000 {
		v := goodValue(r, 1+r.Intn(6))
		text, code := schema.Write(v)
		if got, at, e := schema.Value(text); code != api.OK || at != 0 || e != api.OK || !same(got, v) {
			t.Fatalf("Value(%q) = %v, %d, %v, want %v", text, got, at, e, v)
		}
	}
}

// fits is Fits as the chapter defines it.
func fits(x api.Type, v api.Value, path string) (string, bool) {
	good := false
	switch x.Kind {
	case api.TypeAny:
		good = true
	case api.TypeInt:
		good = v.Kind == api.TypeInt && v.Num >= x.Min && v.Num <= x.Max
	case api.TypeText:
		good = v.Kind == api.TypeText && len(v.Text) >= x.Min && len(v.Text) <= x.Max
	case api.TypeBool:
		good = v.Kind == api.TypeBool
	case api.TypeEnum:
		for _, option := range x.Options {
			good = good || v.Kind == api.TypeText && v.Text == option
		}
	case api.TypeList:
		good = v.Kind == api.TypeList && len(v.List) >= x.Min && len(v.List) <= x.Max
		for i := 0; good && i < len(v.List); i++ {
			if p, ok := fits(x.Of[0], v.List[i], path+"["+strconv.Itoa(i)+"]"); !ok {
				return p, false
			}
		}
	case api.TypeRecord:
		good = v.Kind == api.TypeRecord
		if good {
			return fitsRecord(x, v, path)
		}
	}
	if !good {
		return path, false
	}
	return "", true
}

func fitsRecord(x api.Type, v api.Value, path string) (string, bool) {
	fields, elements, all := map[string]api.Field{}, map[string]api.Value{}, slices.Clone(v.Names)
	for i, name := range v.Names {
		elements[name] = v.List[i]
	}
	for _, f := range x.Fields {
		fields[f.Name] = f
		all = append(all, f.Name)
	}
	sort.Strings(all)
	for _, name := range all {
		f, known := fields[name]
		element, there := elements[name]
		if !known || !there && !f.Optional {
			return path + "." + name, false
		}
		if !there {
			continue
		}
		if p, ok := fits(f.Type, element, path+"."+name); !ok {
			return p, false
		}
	}
	return "", true
}

// parsed returns the schema of a notation.
func parsed(t *testing.T, text string) api.Type {
	t.Helper()
	x, _, code := schema.Parse(text)
	if code != api.OK {
		t.Fatalf("Parse(%q) = %v", text, code)
	}
	return x
}

// P22.6, the chapter's examples and each kind
func TestFits(t *testing.T) {
	service := "{name: text 1..8, port?: int 1..65535}"
	for _, c := range []struct {
		schema, payload, path string
		ok                    bool
	}{
		{service, `{name:"a"}`, "", true}, {service, `{name:"a",port:80}`, "", true}, {service, `{port:80}`, ".name", false}, {service, `{name:"",port:80}`, ".name", false},
		{service, `{name:"a",size:1}`, ".size", false}, {service, `{name:"a",port:0}`, ".port", false}, {service, `{}`, ".name", false}, {service, `[]`, "", false}, {service, `{a:1}`, ".a", false}, {service, `{name:"a",port:80,z:1}`, ".z", false}, {service, `{name:"a",port:65536}`, ".port", false},
		{service, `{name:"a",port:"80"}`, ".port", false}, {service, `{name:"",port:0}`, ".name", false}, {service, `{nam:1,name:""}`, ".nam", false}, {service, `{name:"123456789"}`, ".name", false}, {service, `{name:"12345678"}`, "", true},
		{"any", "1", "", true}, {"any", `""`, "", true}, {"any", "[[]]", "", true}, {"any", "{a:1}", "", true}, {"any", "true", "", true},
		{"int", "4611686018427387904", "", true}, {"int 1..3", "1", "", true}, {"int 1..3", "3", "", true}, {"int 1..3", "0", "", false}, {"int 1..3", "4", "", false}, {"int", `"1"`, "", false}, {"int", "true", "", false}, {"int", "[]", "", false}, {"int", "{}", "", false}, {"int 0..0", "false", "", false},
		{"text 1..2", `"a"`, "", true}, {"text 1..2", `"ab"`, "", true}, {"text 1..2", `""`, "", false}, {"text 1..2", `"abc"`, "", false}, {"text 1..2", `"\x00\xff"`, "", true}, {"text", "1", "", false}, {"text", "[]", "", false}, {"text 0..1", "0", "", false}, {"text 0..0", "[]", "", false},
		{"text", `"` + strings.Repeat("a", 256) + `"`, "", true}, {"text", `"` + strings.Repeat("a", 257) + `"`, "", false},
		{"bool", "true", "", true}, {"bool", "false", "", true}, {"bool", "1", "", false}, {"bool", `"true"`, "", false},
		{"enum(a|b)", `"a"`, "", true}, {"enum(a|b)", `"b"`, "", true}, {"enum(a|b)", `"c"`, "", false}, {"enum(a|b)", `"ab"`, "", false}, {"enum(a|b)", `""`, "", false}, {"enum(a|b)", "1", "", false}, {"enum(a|b)", "{a:1}", "", false},
		{"list 1..2 of int", "[1]", "", true}, {"list 1..2 of int", "[1,2]", "", true}, {"list 1..2 of int", "[]", "", false}, {"list 1..2 of int", "[1,2,3]", "", false}, {"list 1..2 of int", "[1,true]", "[1]", false}, {"list 1..2 of int", "[true,true]", "[0]", false}, {"list 1..2 of int", "{a:1}", "", false}, {"list 0..0 of int", "[]", "", true}, {"list 0..1 of int", "0", "", false},
		{"list 1..2 of int", "[true,true,true]", "", false}, {"list 0..12 of bool", "[true,true,true,true,true,true,true,true,true,true,1]", "[10]", false},
		{"list 0..2 of list 0..2 of int", "[[1,2],[1,true]]", "[1][1]", false}, {"list 0..2 of list 0..2 of int", "[[1,2],[1,2,3]]", "[1]", false},
		{"{a: {b: list 0..2 of {c?: int}}}", "{a:{b:[{c:1},{}]}}", "", true}, {"{a: {b: list 0..2 of {c?: int}}}", "{a:{b:[{c:1},{c:true}]}}", ".a.b[1].c", false}, {"{a: {b: list 0..2 of {c?: int}}}", "{a:{b:[{d:1}]}}", ".a.b[0].d", false}, {"{a: {b: list 0..2 of {c?: int}}}", "{a:{}}", ".a.b", false}, {"{a: {b: list 0..2 of {c?: int}}}", "{a:1}", ".a", false},
		{"{}", "{}", "", true}, {"{}", "{a:1}", ".a", false}, {"{}", "[]", "", false}, {"{a?: int}", "{}", "", true}, {"{a?: int}", "{b:1}", ".b", false}, {"{b: int}", "{a:1,b:1}", ".a", false}, {"{b: int}", "{a:1}", ".a", false}, {"{b: int}", "{c:1}", ".b", false}, {"{a?: int, b: int}", "{b:1}", "", true},
		{"{a: int, b: int, c: int}", "{a:1,c:1}", ".b", false}, {"{a: int, c: int}", "{a:true,b:1}", ".a", false}, {"{b?: int, c: int}", "{b:true}", ".b", false},
	} {
		x := parsed(t, c.schema)
		v, _, code := schema.Value(c.payload)
		if path, ok := schema.Fits(x, v); code != api.OK || path != c.path || ok != c.ok {
			t.Errorf("Fits(%s, %s) = %q, %v, want %q, %v", c.schema, c.payload, path, ok, c.path, c.ok)
		}
		if got := schema.Accepts(x, c.payload); got != c.ok {
			t.Errorf("Accepts(%s, %s) = %v, want %v", c.schema, c.payload, got, c.ok)
		}
	}
}

// P22.6, what is no notation
func TestAcceptsNoPayload(t *testing.T) {
	for _, text := range []string{"", " 1", "01", "[1,]", "{b:1,a:2}", `"\x41"`, "[[[[[[1]]]]]]", "4611686018427387905", "x", strings.Repeat("1", api.MaxText+1)} {
		if schema.Accepts(whatso, text) {
			t.Errorf("Accepts(any, %.20q) = true", text)
		}
	}
}

// fitting returns a value of at most this depth that is likely to fit a schema.
func fitting(r *rand.Rand, x api.Type, depth int) api.Value {
	if r.Intn(12) == 0 || depth == 1 && (x.Kind == api.TypeList || x.Kind == api.TypeRecord) {
		return goodValue(r, depth)
	}
	switch x.Kind {
	case api.TypeInt:
		return n(max(-most, min(most, pick(r, []int{x.Min, x.Max, x.Min - 1, x.Max + 1, x.Min, x.Max}))))
	case api.TypeText:
		return s(strings.Repeat("a", max(0, pick(r, []int{x.Min, x.Max, x.Min - 1, x.Max + 1, x.Min, x.Max}))))
	case api.TypeBool:
		return truth(r.Intn(2))
	case api.TypeEnum:
		return s(pick(r, x.Options))
	case api.TypeList:
		v := l()
		for range max(0, pick(r, []int{x.Min, x.Max, x.Min - 1, x.Max + 1, x.Min, x.Max})) {
			v.List = append(v.List, fitting(r, x.Of[0], depth-1))
		}
		return v
	case api.TypeRecord:
		return fittingRecord(r, x, depth)
	}
	return goodValue(r, depth)
}

func fittingRecord(r *rand.Rand, x api.Type, depth int) api.Value {
	elements := map[string]api.Value{}
	for _, f := range x.Fields {
		if !f.Optional && r.Intn(12) > 0 || f.Optional && r.Intn(2) == 0 {
			elements[f.Name] = fitting(r, f.Type, depth-1)
		}
	}
	if r.Intn(8) == 0 {
		elements[names[r.Intn(7)]] = goodValue(r, depth-1)
	}
	v := rec("")
	for _, name := range names[:7] {
		if element, there := elements[name]; there {
			v.Names = append(v.Names, name)
			v.List = append(v.List, element)
		}
	}
	return v
}

// P22.6, any schemas and values
func TestFitsAny(t *testing.T) {
	r := rand.New(rand.NewSource(229))
	good := 0
	for range 40000 {
		x := goodType(r, 1+r.Intn(6))
		v := fitting(r, x, 6)
		text, code := schema.Write(v)
		if check(x) != api.OK || code != api.OK {
			t.Fatalf("%v or %v is not valid", x, v)
		}
		want, fit := fits(x, v, "")
		if path, ok := schema.Fits(x, v); path != want || ok != fit {
			t.Fatalf("Fits(%s, %s) = %q, %v, want %q, %v", notation(x), text, path, ok, want, fit)
		}
		if schema.Accepts(x, text) != fit {
			t.Fatalf("Accepts(%s, %s) = %v", notation(x), text, !fit)
		}
		if fit {
			good++
		}
	}
	if good < 8000 || good > 32000 {
		t.Errorf("%d of the values fit", good)
	}
}

// includes is Includes as the chapter defines it.
func includes(a, b api.Type) bool {
	inside := a.Min <= b.Min && b.Max <= a.Max
	switch {
	case a.Kind == api.TypeAny:
		return true
	case b.Kind == api.TypeAny:
		return false
	case a.Kind == api.TypeInt:
		return b.Kind == api.TypeInt && inside
	case a.Kind == api.TypeText && b.Kind == api.TypeEnum:
		for _, option := range b.Options {
			if len(option) < a.Min || len(option) > a.Max {
				return false
			}
		}
		return true
	case a.Kind == api.TypeText:
		return b.Kind == api.TypeText && inside
	case a.Kind == api.TypeBool:
		return b.Kind == api.TypeBool
	case a.Kind == api.TypeEnum:
		for _, option := range b.Options {
			if !slices.Contains(a.Options, option) {
				return false
			}
		}
		return b.Kind == api.TypeEnum
	case a.Kind == api.TypeList:
		return b.Kind == api.TypeList && inside && (b.Max == 0 || includes(a.Of[0], b.Of[0]))
	}
	return b.Kind == api.TypeRecord && includesFields(a, b)
}

func includesFields(a, b api.Type) bool {
	fields, needed := map[string]api.Field{}, map[string]bool{}
	for _, f := range a.Fields {
		fields[f.Name] = f
	}
	for _, f := range b.Fields {
		needed[f.Name] = !f.Optional
		if own, known := fields[f.Name]; !known || !includes(own.Type, f.Type) {
			return false
		}
	}
	for _, f := range a.Fields {
		if !f.Optional && !needed[f.Name] {
			return false
		}
	}
	return true
}

// P22.7, the chapter's examples and each kind
func TestIncludes(t *testing.T) {
	for _, c := range []struct {
		a, b string
		want bool
	}{
		{"list 0..2 of any", "list 1..2 of int", true}, {"text 1..3", "enum(a|bcd)", true}, {"text 1..3", "enum(a|bcde)", false},
		{"{a?: any}", "{a: int}", true}, {"{a?: any}", "{}", true}, {"{a?: any}", "{b: int}", false}, {"{a: any}", "{a?: int}", false},
		{"any", "any", true}, {"any", "int", true}, {"any", "{a: int}", true}, {"int", "any", false}, {"{}", "any", false}, {"list 0..32 of any", "any", false}, {"text", "any", false}, {"bool", "any", false}, {"enum(a)", "any", false},
		{"int", "int 1..2", true}, {"int 1..2", "int", false}, {"int 1..3", "int 1..3", true}, {"int 1..3", "int 2..2", true}, {"int 1..3", "int 0..3", false}, {"int 1..3", "int 1..4", false}, {"int", "bool", false}, {"int 0..32", "text 0..32", false}, {"int 0..32", "list 0..32 of int", false}, {"int", "enum(a)", false}, {"int", "{}", false},
		{"text", "text 1..2", true}, {"text 1..2", "text", false}, {"text 1..3", "text 0..3", false}, {"text 1..3", "text 1..4", false}, {"text 2..3", "enum(a|bcd)", false}, {"text 2..3", "enum(ab|abc)", true}, {"text", "int 0..3", false}, {"text", "list 0..3 of int", false}, {"text", "bool", false}, {"text 0..0", "{}", false},
		{"bool", "bool", true}, {"bool", "int 0..1", false}, {"bool", "{}", false},
		{"enum(a|b|c)", "enum(a|c)", true}, {"enum(a|b|c)", "enum(a|d)", false}, {"enum(a|b)", "enum(a|b|c)", false}, {"enum(a)", "enum(a)", true}, {"enum(a)", "text 1..1", false}, {"enum(a)", "{}", false}, {"enum(a)", "bool", false}, {"enum(a)", "int", false},
		{"list 0..2 of int", "list 0..2 of int", true}, {"list 1..2 of int", "list 0..2 of int", false}, {"list 0..2 of int", "list 0..3 of int", false}, {"list 0..2 of int", "list 0..2 of text", false}, {"list 0..2 of int", "list 0..0 of text", true}, {"list 1..2 of int", "list 0..0 of text", false}, {"list 0..0 of int", "list 0..0 of any", true}, {"list 0..2 of int 1..2", "list 1..1 of int 1..3", false}, {"list 0..2 of int", "text 0..2", false}, {"list 0..2 of int", "int 0..2", false}, {"list 0..2 of int", "{}", false},
		{"list 0..1 of list 0..1 of any", "list 0..1 of list 0..1 of int", true}, {"list 0..1 of list 0..1 of int", "list 0..1 of list 0..1 of any", false}, {"list 0..1 of list 0..1 of int", "list 0..1 of list 0..0 of any", true},
		{"{}", "{}", true}, {"{}", "{a?: int}", false}, {"{a: int}", "{}", false}, {"{a: int}", "{a: int}", true}, {"{a: int}", "{a?: int}", false}, {"{a?: int}", "{a?: int}", true}, {"{a?: int}", "{a: int}", true}, {"{a: int}", "{a: text}", false}, {"{a: int}", "{a: int, b: int}", false}, {"{a: int, b?: int}", "{a: int}", true}, {"{a: int, b: int}", "{a: int}", false}, {"{a: int, b: int}", "{a: int, b?: int}", false},
		{"{a?: int, b?: int}", "{b: int}", true}, {"{a?: int, b?: int}", "{b: text}", false}, {"{a: {b?: any}}", "{a: {b: int}}", true}, {"{a: {b: any}}", "{a: {b?: int}}", false}, {"{}", "int 0..0", false}, {"{}", "list 0..0 of int", false}, {"{}", "bool", false},
	} {
		if got := schema.Includes(parsed(t, c.a), parsed(t, c.b)); got != c.want {
			t.Errorf("Includes(%s, %s) = %v, want %v", c.a, c.b, got, c.want)
		}
	}
}

// smallTypes returns schemas of all kinds that are alike.
func smallTypes() []api.Type {
	simple := []api.Type{whatso, boolean, num(0, 1), num(0, 2), num(1, 2), text(0, 1), text(1, 1), text(1, 2), enum("a"), enum("a", "b"), enum("b", "cc")}
	all := append([]api.Type{record()}, simple...)
	for _, x := range simple {
		all = append(all, list(0, 0, x), list(0, 1, x), list(1, 2, x), record(must("a", x)), record(may("a", x)))
	}
	for _, x := range simple[2:5] {
		for _, y := range simple[:3] {
			all = append(all, record(must("a", x), must("b", y)), record(may("a", x), must("b", y)), record(may("a", x), may("b", y)))
		}
	}
	return all
}

// smallValues returns values of all kinds that are alike.
func smallValues() []api.Value {
	simple := []api.Value{n(0), n(1), n(2), n(3), s(""), s("a"), s("b"), s("cc"), s("abc"), truth(0), truth(1)}
	all := append([]api.Value{l(), rec("")}, simple...)
	for _, x := range simple {
		all = append(all, l(x), rec("a", x), rec("b", x))
		for _, y := range simple {
			all = append(all, l(x, y), rec("a b", x, y))
		}
	}
	return all
}

// P22.7 and P22.8: what includes a schema accepts what fits it; every schema includes itself; inclusion is transitive
func TestIncludesSmall(t *testing.T) {
	types, values := smallTypes(), smallValues()
	fit, inside := map[int]map[int]bool{}, map[int]map[int]bool{}
	for i, a := range types {
		fit[i], inside[i] = map[int]bool{}, map[int]bool{}
		for k, v := range values {
			_, fit[i][k] = schema.Fits(a, v)
		}
		for k, b := range types {
			inside[i][k] = schema.Includes(a, b)
			if inside[i][k] != includes(a, b) {
				t.Fatalf("Includes(%s, %s) = %v", notation(a), notation(b), inside[i][k])
			}
		}
	}
	for i := range types {
		if !inside[i][i] {
			t.Errorf("%s does not include itself", notation(types[i]))
		}
		for k := range types {
			for v := range values {
				if inside[i][k] && fit[k][v] && !fit[i][v] {
					t.Errorf("%s includes %s, but not %s", notation(types[i]), notation(types[k]), payload(values[v]))
				}
			}
			for m := range types {
				if inside[i][k] && inside[k][m] && !inside[i][m] {
					t.Errorf("%s, %s and %s", notation(types[i]), notation(types[k]), notation(types[m]))
				}
			}
		}
	}
}

// wider returns a schema that differs a little from x, mostly so that it includes x.
func wider(r *rand.Rand, x api.Type) api.Type {
	step := r.Intn(4) - 1
	switch {
	case r.Intn(10) == 0:
		return whatso
	case x.Kind == api.TypeInt:
		return num(max(-most, x.Min-step), min(most, max(x.Min, x.Max+r.Intn(3))))
	case x.Kind == api.TypeText:
		return text(max(0, x.Min-r.Intn(2)), min(256, x.Max+r.Intn(3)))
	case x.Kind == api.TypeEnum && r.Intn(2) == 0:
		return text(r.Intn(3), 16)
	case x.Kind == api.TypeEnum:
		l := append(someNames(r, 2), x.Options...)
		sort.Strings(l)
		return enum(slices.Compact(l)...)
	case x.Kind == api.TypeList:
		return list(max(0, x.Min-r.Intn(2)), min(32, x.Max+r.Intn(2)), wider(r, x.Of[0]))
	case x.Kind == api.TypeRecord:
		y := record()
		for _, f := range x.Fields {
			if r.Intn(15) > 0 {
				y.Fields = append(y.Fields, api.Field{Name: f.Name, Optional: f.Optional || r.Intn(3) == 0, Type: wider(r, f.Type)})
			}
		}
		if r.Intn(3) == 0 {
			y.Fields = append(y.Fields, may("zzzz", x))
		}
		return y
	}
	return x
}

// P22.7 and P22.8, any schemas
func TestIncludesAny(t *testing.T) {
	r := rand.New(rand.NewSource(230))
	held := 0
	for range 30000 {
		c := goodType(r, 1+r.Intn(4))
		b := wider(r, c)
		a := wider(r, b)
		if check(a) != api.OK || check(b) != api.OK {
			continue
		}
		bc, ab, ac := schema.Includes(b, c), schema.Includes(a, b), schema.Includes(a, c)
		if bc != includes(b, c) || ab != includes(a, b) || ac != includes(a, c) || schema.Includes(c, a) != includes(c, a) {
			t.Fatalf("Includes of %s, %s and %s", notation(a), notation(b), notation(c))
		}
		if !schema.Includes(c, c) || ab && bc && !ac {
			t.Fatalf("Includes of %s, %s and %s", notation(a), notation(b), notation(c))
		}
		for range 5 {
			v := fitting(r, c, 6)
			_, inner := schema.Fits(c, v)
			if _, outer := schema.Fits(b, v); bc && inner && !outer {
				t.Fatalf("%s includes %s, but not %s", notation(b), notation(c), payload(v))
			}
		}
		if bc {
			held++
		}
	}
	if held < 5000 {
		t.Errorf("only %d schemas include others", held)
	}
}

// R1: every call returns, also with types and values that are not valid
func TestInvalid(t *testing.T) {
	r := rand.New(rand.NewSource(231))
	for range 20000 {
		a, b, v := badType(r, r.Intn(9)), badType(r, r.Intn(9)), badValue(r, r.Intn(9))
		schema.Fits(a, v)
		schema.Accepts(a, payload(goodValue(r, 3)))
		schema.Includes(a, b)
		schema.Includes(a, a)
	}
	round, ring := make([]api.Type, 1), make([]api.Value, 1)
	round[0] = api.Type{Kind: api.TypeList, Max: 1, Of: round}
	ring[0] = l()
	ring[0].List = ring
	schema.Fits(round[0], ring[0])
	schema.Includes(round[0], round[0])
	if got := schema.Check(round[0]); got != api.ErrDepth {
		t.Errorf("Check of a type without end = %v, want ErrDepth", got)
	}
	if _, got := schema.Write(ring[0]); got != api.ErrDepth {
		t.Errorf("Write of a value without end = %v, want ErrDepth", got)
	}
}

// spoilType and spoilValue overwrite the lists of a type and of a value, also behind their ends.
func spoilType(x api.Type) {
	for _, f := range x.Fields[:cap(x.Fields)] {
		spoilType(f.Type)
	}
	for _, of := range x.Of[:cap(x.Of)] {
		spoilType(of)
	}
	clear(x.Options[:cap(x.Options)])
	clear(x.Of[:cap(x.Of)])
	clear(x.Fields[:cap(x.Fields)])
}

func spoilValue(v api.Value) {
	for _, part := range v.List[:cap(v.List)] {
		spoilValue(part)
	}
	clear(v.Names[:cap(v.Names)])
	clear(v.List[:cap(v.List)])
}

// R5: results share no memory, and arguments stay as they are
func TestMemory(t *testing.T) {
	r := rand.New(rand.NewSource(232))
	for range 2000 {
		x, v := goodType(r, 4), goodValue(r, 4)
		text, data := notation(x), payload(v)
		a, _, _ := schema.Parse(text)
		b, _, _ := schema.Parse(text)
		spoilType(a)
		if !same(b, x) {
			t.Fatalf("Parse(%q) shares memory with another result", text)
		}
		c, _, _ := schema.Value(data)
		d, _, _ := schema.Value(data)
		spoilValue(c)
		if !same(d, v) {
			t.Fatalf("Value(%q) shares memory with another result", data)
		}
		schema.Check(b)
		schema.Print(b)
		schema.Write(d)
		schema.Fits(b, d)
		schema.Includes(b, x)
		schema.Accepts(b, data)
		if !same(b, x) || !same(d, v) {
			t.Fatalf("%q or %q was changed", text, data)
		}
	}
}

// R5: the lists within one result do not reach into each other
func TestMemoryWithin(t *testing.T) {
	x := parsed(t, "{a: {a: enum(a|b|c), b: bool}, b: {a: enum(a|b|c), b: bool}, c: list 0..1 of int}")
	want := notation(x.Fields[1].Type)
	spoilType(x.Fields[0].Type)
	spoilType(x.Fields[2].Type)
	if got := notation(x.Fields[1].Type); got != want {
		t.Errorf("a part of the schema is %q, want %q", got, want)
	}
	v, _, _ := schema.Value("{a:{a:[1,2,3]},b:{a:[1,2,3]},c:[[1],2,3]}")
	want = payload(v.List[1])
	spoilValue(v.List[0])
	spoilValue(v.List[2])
	if got := payload(v.List[1]); got != want {
		t.Errorf("a part of the value is %q, want %q", got, want)
	}
}
