package lex

import "steelyard/api"

// reader goes through a text; where something is wrong, it stands at the byte that is.
type reader struct {
	text []byte
	at   int
}

// way reads the token that begins at the next byte; false, if it can't be.
type way func() (api.Token, bool)

// ways gives how the token that begins with a byte is read; nil, where none does.
func (r *reader) ways() [256]way {
	ways := [256]way{'(': r.paren, ')': r.paren, '|': r.quoted, ':': r.keyword, '"': r.literal}
	symbol, number := r.symbol, r.number
	for c := range ways {
		switch {
		case isDigit(byte(c)):
			ways[c] = number
		case isOfSymbol(byte(c)):
			ways[c] = symbol
		}
	}
	return ways
}

// wrong gives the fault that the next byte is wrong, or the end, where there is none.
func (r *reader) wrong() api.Fault { return api.Fault{Code: api.ErrByte, At: r.at} }

// skip goes past blanks.
func (r *reader) skip() {
	r.pass(isBlank)
	for r.take(';') {
		r.pass(isOfLine)
		r.pass(isBlank)
	}
}

// pass goes past all bytes that are such, and gives them.
func (r *reader) pass(such func(c byte) bool) []byte {
	begin := r.at
	for r.sees(such) {
		r.at++
	}
	return r.text[begin:r.at]
}

// sees tells whether the next byte is such.
func (r *reader) sees(such func(c byte) bool) bool {
	return r.at < len(r.text) && such(r.text[r.at])
}

// take goes past the next byte, if it is that one.
func (r *reader) take(c byte) bool {
	if r.at == len(r.text) || r.text[r.at] != c {
		return false
	}
	r.at++
	return true
}

// paren reads a parenthesis.
func (r *reader) paren() (api.Token, bool) {
	if r.take('(') {
		return api.Token{Kind: api.TokOpen, Text: "("}, true
	}
	return api.Token{Kind: api.TokClose, Text: ")"}, r.take(')')
}

// symbol reads a symbol that stands as it is.
func (r *reader) symbol() (api.Token, bool) {
	return api.Token{Kind: api.TokSymbol, Text: string(r.pass(isOfSymbol))}, true
}

// quoted reads a symbol between two |.
func (r *reader) quoted() (api.Token, bool) {
	r.take('|')
	name := string(r.pass(isOfQuoted))
	return api.Token{Kind: api.TokSymbol, Text: name}, r.take('|')
}

// number reads a numeral, or a decimal.
func (r *reader) number() (api.Token, bool) {
	begin, kind := r.at, api.TokNumeral
	if r.take('0') && r.sees(isDigit) {
		return api.Token{}, false
	}
	r.pass(isDigit)
	if r.take('.') {
		kind = api.TokDecimal
		if len(r.pass(isDigit)) == 0 {
			return api.Token{}, false
		}
	}
	return api.Token{Kind: kind, Text: string(r.text[begin:r.at])}, !r.sees(isOfSymbol)
}

// keyword reads a keyword.
func (r *reader) keyword() (api.Token, bool) {
	r.take(':')
	name := string(r.pass(isOfSymbol))
	return api.Token{Kind: api.TokKeyword, Text: name}, name != ""
}

// literal reads a string.
func (r *reader) literal() (api.Token, bool) {
	var text []byte
	r.take('"')
	for {
		text = append(text, r.pass(isOfLiteral)...)
		if !r.take('"') {
			return api.Token{}, false
		}
		if !r.take('"') {
			return api.Token{Kind: api.TokString, Text: string(text)}, true
		}
		text = append(text, '"')
	}
}
