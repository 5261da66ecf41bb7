package lex

import "strings"

// signs are the bytes of symbols that are neither letters nor digits.
const signs = "~!@$%^&*_-+=<>.?/"

// isBlank tells whether a byte is a blank.
func isBlank(c byte) bool { return c == ' ' || isControl(c) }

// isControl tells whether a byte is one of those below 32 that may stand in a text.
func isControl(c byte) bool { return c == '\t' || c == '\n' || c == '\r' }

// isOfLine tells whether a byte may stand behind a ; on its line.
func isOfLine(c byte) bool { return c != '\n' }

// isDigit tells whether a byte is a digit.
func isDigit(c byte) bool { return '0' <= c && c <= '9' }

// isLetter tells whether a byte is a letter.
func isLetter(c byte) bool { return 'a' <= c && c <= 'z' || 'A' <= c && c <= 'Z' }

// isOfSymbol tells whether a byte is a symbol's.
func isOfSymbol(c byte) bool {
	return isLetter(c) || isDigit(c) || strings.IndexByte(signs, c) >= 0
}

// isPlain tells whether a byte may stand between two | or two ".
func isPlain(c byte) bool { return ' ' <= c && c <= '~' || isControl(c) }

// isOfQuoted tells whether a byte may stand between two |, and is none.
func isOfQuoted(c byte) bool { return isPlain(c) && c != '|' && c != '\\' }

// isOfLiteral tells whether a byte may stand between two ", and is none.
func isOfLiteral(c byte) bool { return isPlain(c) && c != '"' }
