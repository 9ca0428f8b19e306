package lexer

import (
	"strings"

	"horizon/api"
)

// Spell is a text of these tokens.
func Spell(l []api.Token) (string, api.Errno) {
	if len(l) > api.MaxTokens {
		return "", api.ErrTokens
	}
	if !wellFormed(l) {
		return "", api.ErrForm
	}
	return layOut(l)
}

func wellFormed(l []api.Token) bool {
	for i, tok := range l {
		if tok.Line < 1 || tok.Col < 1 || !standsAlone(tok) {
			return false
		}
		if i > 0 && !follows(l[i-1], tok) {
			return false
		}
	}
	return true
}

func standsAlone(tok api.Token) bool {
	l, err := Scan(tok.Text)
	return err == nil && len(l) == 1 && sameToken(l[0], tok)
}

// sameToken leaves places out: they are not what a token is, but where it stands.
func sameToken(a, b api.Token) bool {
	return a.Kind == b.Kind && a.Text == b.Text && a.Num == b.Num
}

// follows takes both tokens to stand alone.
func follows(a, b api.Token) bool {
	if a.Line != b.Line {
		return a.Line < b.Line
	}
	// The length is taken from b's column, not added to a's, for a's may be the largest int.
	free := b.Col - len(a.Text)
	return free > a.Col || free == a.Col && mayTouch(a, b)
}

// mayTouch reads but one byte of b: no token's end hangs on more than the byte behind it, and b ends where the text ends.
func mayTouch(a, b api.Token) bool {
	if len(a.Text)+len(b.Text) > api.MaxText {
		return false
	}
	tok, code := read(a.Text + b.Text[:1])
	return code == api.OK && tok.Text == a.Text
}

// layOut takes the tokens to be well-formed. Lines and columns may be as large as an int: they are taken from the room one by one, for their sum may not fit.
func layOut(l []api.Token) (string, api.Errno) {
	var text strings.Builder
	line, col := 1, 1
	for _, tok := range l {
		room := api.MaxText - text.Len()
		lines := tok.Line - line
		if lines > 0 {
			line, col = tok.Line, 1
		}
		spaces := tok.Col - col
		if spaces > room-lines || len(tok.Text) > room-lines-spaces {
			return "", api.ErrLong
		}
		text.WriteString(strings.Repeat("\n", lines))
		text.WriteString(strings.Repeat(" ", spaces))
		text.WriteString(tok.Text)
		col = tok.Col + len(tok.Text)
	}
	return text.String(), api.OK
}
