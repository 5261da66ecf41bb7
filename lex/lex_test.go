package lex_test

import (
	"strings"
	"testing"

	"steelyard/api"
	"steelyard/lex"
)

func TestP71Example(t *testing.T) {
	reads(t, "(x 1.50)", token(api.TokOpen, "(", 0), token(api.TokSymbol, "x", 1), token(api.TokDecimal, "1.50", 3), token(api.TokClose, ")", 7))
}

func TestP71Blanks(t *testing.T) {
	for _, text := range []string{"", " ", "\t\n\r ", ";", ";\n", "; a (\x00\xff\"|:01 \r;\n", ";;;", " ;a", ";a\n;b\n\n ; c"} {
		reads(t, text)
		reads(t, text+"\nx", token(api.TokSymbol, "x", len(text)+1))
	}
	reads(t, "a;b\nc", token(api.TokSymbol, "a", 0), token(api.TokSymbol, "c", 4))
	reads(t, "1;b\r2\n3;", token(api.TokNumeral, "1", 0), token(api.TokNumeral, "3", 6))
	// In a | or a string a ; is a byte like others.
	reads(t, "|;\n|\";\n\"", token(api.TokSymbol, ";\n", 0), token(api.TokString, ";\n", 4))
	for c := range 256 {
		switch c {
		case 9, 10, 13, 32:
			reads(t, "a"+string([]byte{byte(c)})+"b", token(api.TokSymbol, "a", 0), token(api.TokSymbol, "b", 2))
		default:
			// What no blank is ends no line that is one.
			reads(t, ";"+string([]byte{byte(c)})+"b")
		}
	}
}

// Each byte of 256 begins what the document says, or nothing.
func TestP71FirstByte(t *testing.T) {
	for c := range 256 {
		text := string([]byte{byte(c)})
		switch {
		case c == '(':
			reads(t, text, token(api.TokOpen, "(", 0))
		case c == ')':
			reads(t, text, token(api.TokClose, ")", 0))
		case '0' <= c && c <= '9':
			reads(t, text, token(api.TokNumeral, text, 0))
		case strings.Contains(symbolBytes, text):
			reads(t, text, token(api.TokSymbol, text, 0))
		case c == '|', c == ':', c == '"':
			fails(t, text, 1)
		case c == 9, c == 10, c == 13, c == 32, c == ';':
			reads(t, text)
		default:
			fails(t, text, 0)
			fails(t, "ab "+text, 3)
			fails(t, "ab"+text, 2)
			fails(t, "12"+text, 2)
			fails(t, ":a"+text, 2)
			fails(t, "(\"a\"|b|"+text+"01", 7)
		}
	}
}

// A symbol has all symbol's bytes behind its first one, and no other byte.
func TestP71Symbol(t *testing.T) {
	reads(t, symbolBytes, token(api.TokSymbol, symbolBytes, 0))
	reads(t, "-1.5/x", token(api.TokSymbol, "-1.5/x", 0))
	reads(t, ".5", token(api.TokSymbol, ".5", 0))
	reads(t, "a|b|c", token(api.TokSymbol, "a", 0), token(api.TokSymbol, "b", 1), token(api.TokSymbol, "c", 4))
	reads(t, "a:b\"c\"(d)e", token(api.TokSymbol, "a", 0), token(api.TokKeyword, "b", 1), token(api.TokString, "c", 3), token(api.TokOpen, "(", 6), token(api.TokSymbol, "d", 7), token(api.TokClose, ")", 8), token(api.TokSymbol, "e", 9))
	long := strings.Repeat("a", 1<<16)
	reads(t, long+" "+long, token(api.TokSymbol, long, 0), token(api.TokSymbol, long, len(long)+1))
}

func TestP71Quoted(t *testing.T) {
	reads(t, "||", token(api.TokSymbol, "", 0))
	reads(t, "||||", token(api.TokSymbol, "", 0), token(api.TokSymbol, "", 2))
	reads(t, " |a (b) \"c : ;|d", token(api.TokSymbol, "a (b) \"c : ;", 1), token(api.TokSymbol, "d", 15))
	reads(t, "|1|", token(api.TokSymbol, "1", 0))
	for c := range 256 {
		text := "|a" + string([]byte{byte(c)}) + "b|"
		switch {
		case c == '|':
			fails(t, text, 5)
		case c == 92, c < 32 && c != 9 && c != 10 && c != 13, c > 126:
			fails(t, text, 2)
			fails(t, text[:4], 2)
		default:
			reads(t, text, token(api.TokSymbol, text[1:4], 0))
		}
	}
	fails(t, "|", 1)
	fails(t, "|||", 3)
	fails(t, "x |a\nb ", 7)
}

func TestP71Number(t *testing.T) {
	for _, text := range []string{"0", "1", "9", "10", "1234567890", "99999999999999999999999999999999999"} {
		reads(t, text, token(api.TokNumeral, text, 0))
		for _, digits := range []string{"0", "5", "00", "010", "9999999999999999999999"} {
			reads(t, " "+text+"."+digits, token(api.TokDecimal, text+"."+digits, 1))
			// All symbol's bytes but digits are wrong behind it, and a point, too.
			for _, c := range symbolBytes {
				if c < '0' || c > '9' {
					fails(t, text+"."+digits+string(c)+"1", len(text)+1+len(digits))
				}
			}
		}
		fails(t, text+".", len(text)+1)
		fails(t, "("+text+". 5)", len(text)+2)
		fails(t, "("+text+".x)", len(text)+2)
		fails(t, text+"..5", len(text)+1)
		fails(t, text+"\x00", len(text))
		for _, c := range symbolBytes {
			if (c < '0' || c > '9') && c != '.' {
				fails(t, text+string(c), len(text))
			}
		}
		for _, behind := range []string{"(", ")", " ", "\n", ";"} {
			if list, f := lex.Read([]byte(text + behind)); f.Code != api.OK || list[0] != token(api.TokNumeral, text, 0) {
				t.Errorf("%s%s: %v", text, behind, f)
			}
		}
	}
	reads(t, "1|a|2.0\"b\"3:c", token(api.TokNumeral, "1", 0), token(api.TokSymbol, "a", 1), token(api.TokDecimal, "2.0", 4), token(api.TokString, "b", 7), token(api.TokNumeral, "3", 10), token(api.TokKeyword, "c", 11))
}

// Of a numeral with a 0 ahead the second digit is wrong, whatever comes behind it.
func TestP71Nought(t *testing.T) {
	for _, text := range []string{"00", "01", "09", "000", "010", "01.5", "00.5", "01x", "01#", "01."} {
		fails(t, text, 1)
		fails(t, "( "+text, 3)
	}
	fails(t, "0x1", 1)
	fails(t, "0-", 1)
}

func TestP71Keyword(t *testing.T) {
	reads(t, ":a", token(api.TokKeyword, "a", 0))
	reads(t, " :"+symbolBytes+")", token(api.TokKeyword, symbolBytes, 1), token(api.TokClose, ")", len(symbolBytes)+2))
	reads(t, ":01:-", token(api.TokKeyword, "01", 0), token(api.TokKeyword, "-", 3))
	fails(t, ":", 1)
	fails(t, "a :", 3)
	for c := range 256 {
		if text := string([]byte{byte(c)}); !strings.Contains(symbolBytes, text) {
			fails(t, ":"+text, 1)
			fails(t, ":a :"+text+"a", 4)
		}
	}
}

func TestP71String(t *testing.T) {
	reads(t, `""`, token(api.TokString, "", 0))
	reads(t, `""""`, token(api.TokString, `"`, 0))
	reads(t, `""""""`, token(api.TokString, `""`, 0))
	reads(t, `"a""b"`, token(api.TokString, `a"b`, 0))
	reads(t, `"a" "b"`, token(api.TokString, "a", 0), token(api.TokString, "b", 4))
	reads(t, `"""a"`, token(api.TokString, `"a`, 0))
	reads(t, `"a"""`, token(api.TokString, `a"`, 0))
	reads(t, ` "\n|(;:"x`, token(api.TokString, `\n|(;:`, 1), token(api.TokSymbol, "x", 9))
	// An odd number of them, one behind the other, has no end.
	for n := range 20 {
		text := strings.Repeat(`"`, n)
		if n%2 == 1 {
			fails(t, text, n)
			fails(t, "x "+text+"a", n+3)
		} else if n > 0 {
			reads(t, text, token(api.TokString, strings.Repeat(`"`, n/2-1), 0))
		}
	}
	fails(t, `"a`, 2)
	fails(t, `"a""b `, 6)
	for c := range 256 {
		text := `"a` + string([]byte{byte(c)}) + `b"`
		switch {
		case c == '"':
			fails(t, text, 5)
		case c < 32 && c != 9 && c != 10 && c != 13, c > 126:
			fails(t, text, 2)
			fails(t, text[:4], 2)
			fails(t, `"a""`+text[2:], 4)
		default:
			reads(t, text, token(api.TokString, text[1:4], 0))
		}
	}
}

// The first token that can't be is told, whatever comes behind it; and none of those ahead.
func TestP71First(t *testing.T) {
	fails(t, "(a # 01 :)", 3)
	fails(t, "(a 01 # :)", 4)
	fails(t, "(a : 01 #)", 4)
	fails(t, "(a |# 01", 8)
	fails(t, "(a 1. |", 5)
	fails(t, "{|", 0)
	fails(t, "\x80", 0)
	fails(t, "é", 0)
	fails(t, "a é", 2)
}

func TestP72(t *testing.T) {
	for _, s := range []string{"x", "-1", "<=", "a.b", ".5", symbolBytes, "true", "let", "_", "!"} {
		symbol(t, s, s, true)
	}
	for _, s := range []string{"", " ", "a b", " a", "a ", "a\n", "\t\r\n", "1", "01", "1.5", "1.", "1a", ":a", ":", "(", ")", "()", "\"", "\"a\"", ";", "a;b", ";\n", "x y", "x(", "#", "{a}", ",", "'", "[", "]", "`"} {
		symbol(t, s, "|"+s+"|", true)
	}
	for _, s := range []string{"|", "||", "|a|", "a|", "|a", "a|b", "a| |b", "\\", "a\\b", "\x00", "a\x1f", "\x7f", "a\x80", "é", "\xff", "|a", " |", "a\n|b|"} {
		symbol(t, s, "", false)
	}
}

// symbol tells an error, if a name doesn't stand in a text so.
func symbol(t *testing.T, s, want string, is bool) {
	t.Helper()
	text, ok := lex.Symbol(s)
	if text != want || ok != is {
		t.Errorf("%q: %q, %v; not %q, %v", s, text, ok, want, is)
	}
	if ok {
		reads(t, text, token(api.TokSymbol, s, 0))
	}
}

// Each byte, alone and between others, by the words of the document.
func TestP72Bytes(t *testing.T) {
	for c := range 256 {
		one := string([]byte{byte(c)})
		for _, s := range []string{one, "a" + one, one + "a", "1" + one} {
			switch {
			case c == '|', c == 92, c < 32 && c != 9 && c != 10 && c != 13, c > 126:
				symbol(t, s, "", false)
			case strings.Contains(symbolBytes, one) && (s[0] < '0' || s[0] > '9'):
				symbol(t, s, s, true)
			default:
				symbol(t, s, "|"+s+"|", true)
			}
		}
	}
}
