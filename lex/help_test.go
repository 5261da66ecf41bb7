package lex_test

import (
	"regexp"
	"slices"
	"strings"
	"testing"

	"steelyard/api"
	"steelyard/lex"
)

// symbolBytes are all bytes of symbols, as the document lists them.
const symbolBytes = "abcdefghijklmnopqrstuvwxyzABCDEFGHIJKLMNOPQRSTUVWXYZ0123456789~!@$%^&*_-+=<>.?/"

// completions are what may end a token that was begun.
var completions = []string{"", "0", "a", "|", "\"", "\"\""}

// token gives a token.
func token(kind int, text string, at int) api.Token {
	return api.Token{Kind: kind, Text: text, At: at}
}

// reads tells an error, if a text doesn't read as these tokens.
func reads(t *testing.T, text string, want ...api.Token) {
	t.Helper()
	if list, f := lex.Read([]byte(text)); f != (api.Fault{}) || !slices.Equal(list, want) {
		t.Errorf("%q: %v and %v, not %v", text, list, f, want)
	}
}

// fails tells an error, if a text isn't wrong at a byte.
func fails(t *testing.T, text string, at int) {
	t.Helper()
	if list, f := lex.Read([]byte(text)); f != (api.Fault{Code: api.ErrByte, At: at}) || len(list) != 0 {
		t.Errorf("%q: %v and %v, not a fault at %d", text, list, f, at)
	}
}

// form is how a kind of tokens looks.
type form struct {
	kind   int
	looks  *regexp.Regexp
	behind string // no byte of these is behind it
}

// forms gives how all tokens look, by the words of the document.
func forms() []form {
	sign := `~!@$%^&*_+=<>.?/\-`
	look := func(s string) *regexp.Regexp { return regexp.MustCompile(`^(?:` + s + `)`) }
	quoted := "(?:[\t\n\r -\\[\\]-{}~])*"
	return []form{
		{api.TokOpen, look(`\(`), ""},
		{api.TokClose, look(`\)`), ""},
		{api.TokSymbol, look(`[a-zA-Z` + sign + `][a-zA-Z0-9` + sign + `]*`), symbolBytes},
		{api.TokSymbol, look(`\|` + quoted + `\|`), ""},
		{api.TokNumeral, look(`0|[1-9][0-9]*`), symbolBytes},
		{api.TokDecimal, look(`(?:0|[1-9][0-9]*)\.[0-9]+`), symbolBytes},
		{api.TokKeyword, look(`:[a-zA-Z0-9` + sign + `]+`), symbolBytes},
		{api.TokString, look(`"(?:[^"]|"")*"`), `"`},
	}
}

// plain are the bytes between two ".
var plain = regexp.MustCompile(`^[\t\n\r -~]*$`)

// tokenBy gives by the words of the document the token at the beginning of a text, and how long it is; false, if there is none.
func tokenBy(list []form, text string) (api.Token, int, bool) {
	for _, f := range list {
		s := f.looks.FindString(text)
		if s == "" || len(s) < len(text) && strings.IndexByte(f.behind, text[len(s)]) >= 0 {
			continue
		}
		tok := api.Token{Kind: f.kind, Text: s}
		switch {
		case f.kind == api.TokString:
			if !plain.MatchString(s) {
				return api.Token{}, 0, false
			}
			tok.Text = strings.ReplaceAll(s[1:len(s)-1], `""`, `"`)
		case f.kind == api.TokKeyword:
			tok.Text = s[1:]
		case s[0] == '|':
			tok.Text = s[1 : len(s)-1]
		}
		return tok, len(s), true
	}
	return api.Token{}, 0, false
}

// blanks are what is between tokens.
var blanks = regexp.MustCompile("^(?:[\t\n\r ]|;[^\n]*\n|;[^\n]*$)*")

// tokensBy gives by the words of the document the tokens of a text; false, if one can't be, and where that one begins.
func tokensBy(list []form, text string) (tokens []api.Token, at int, ok bool) {
	for {
		at += len(blanks.FindString(text[at:]))
		if at == len(text) {
			return tokens, at, true
		}
		tok, size, ok := tokenBy(list, text[at:])
		if !ok {
			return nil, at, false
		}
		tok.At = at
		tokens = append(tokens, tok)
		at += size
	}
}
