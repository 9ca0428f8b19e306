package lexer

import (
	"strconv"

	"horizon/api"
)

// read is the token at the front of a text that is not empty; its place is left to the caller, who alone knows it.
func read(s string) (api.Token, api.Errno) {
	first := rune(s[0])
	if isLetter(first) {
		return readName(s)
	}
	if isDigit(first) {
		return readNumber(s)
	}
	return readMark(s)
}

func readName(s string) (api.Token, api.Errno) {
	text := s[:span(s, inName)]
	if len(text) > api.MaxName {
		return api.Token{}, api.ErrName
	}
	return api.Token{Kind: wordKind(text), Text: text}, api.OK
}

func readNumber(s string) (api.Token, api.Errno) {
	n := span(s, isDigit)
	if n < len(s) && inName(rune(s[n])) {
		return api.Token{}, api.ErrNumber
	}
	num, err := strconv.ParseUint(s[:n], 10, 64)
	if err != nil {
		return api.Token{}, api.ErrNumber
	}
	return api.Token{Kind: api.TNumber, Text: s[:n], Num: num}, api.OK
}

func readMark(s string) (api.Token, api.Errno) {
	text := s[:markLength(s)]
	kind := markKind(text)
	if kind == 0 {
		return api.Token{}, api.ErrByte
	}
	return api.Token{Kind: kind, Text: text}, api.OK
}

// markLength is how many bytes the longest mark has that may stand at the front of s.
func markLength(s string) int {
	if len(s) == 1 {
		return 1
	}
	switch s[0] {
	case '<', '>':
		if s[1] == s[0] {
			return 2
		}
		fallthrough // what shifts when doubled also compares with a '=' behind it
	case '=', '!':
		if s[1] == '=' {
			return 2
		}
	case '|', '&':
		if s[1] == s[0] {
			return 2
		}
	}
	return 1
}

// span is how many bytes at the front of s belong together.
func span(s string, belongs func(rune) bool) int {
	for i, r := range s {
		if !belongs(r) {
			return i
		}
	}
	return len(s)
}

func isLetter(r rune) bool { return 'a' <= r && r <= 'z' || 'A' <= r && r <= 'Z' }

func isDigit(r rune) bool { return '0' <= r && r <= '9' }

func inName(r rune) bool { return isLetter(r) || isDigit(r) || r == '_' }

func inComment(r rune) bool { return r != '\n' }
