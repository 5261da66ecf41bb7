package sexp

import (
	"strings"

	"steelyard/api"
	"steelyard/lex"
)

// canStand tells whether a token's text is read as that token.
func canStand(token api.Token) bool {
	list, _ := lex.Read([]byte(tokenText(token)))
	return len(list) == 1 && list[0] == api.Token{Kind: token.Kind, Text: token.Text}
}

// tokenText gives a token's text; an empty one, which is read as none, if it has none.
func tokenText(token api.Token) string {
	switch token.Kind {
	case api.TokSymbol:
		text, _ := lex.Symbol(token.Text)
		return text
	case api.TokNumeral, api.TokDecimal:
		return token.Text
	case api.TokKeyword:
		return ":" + token.Text
	case api.TokString:
		return `"` + strings.ReplaceAll(token.Text, `"`, `""`) + `"`
	}
	return ""
}

// appendText puts the text of an expression behind a text.
func appendText(b []byte, x api.Sexp) []byte {
	if !x.List {
		return append(b, tokenText(x.Tok)...)
	}
	b = append(b, '(')
	for i := range x.Kids {
		if i > 0 {
			b = append(b, ' ')
		}
		b = appendText(b, x.Kids[i])
	}
	return append(b, ')')
}
