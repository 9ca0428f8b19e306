package lexer

import "horizon/api"

// The words from TSeed to TWait, the marks and operators from TOpen to OpFlip; the numbers between them have no spelling.
var spelling = [...]string{
	api.TSeed: "seed", api.TLook: "look", api.TEnd: "end", api.TBudget: "budget",
	api.TFuel: "fuel", api.TConst: "const", api.TKind: "kind", api.TType: "type",
	api.TVar: "var", api.TOn: "on", api.TPlace: "place", api.TStart: "start",
	api.TLet: "let", api.TIf: "if", api.TElse: "else", api.TWhile: "while",
	api.TBreak: "break", api.TContinue: "continue", api.TReturn: "return", api.TSend: "send",
	api.TTo: "to", api.TAfter: "after", api.TAt: "at", api.TFail: "fail",
	api.TNow: "now", api.TMe: "me", api.TFrom: "from", api.TRoll: "roll",
	api.TMin: "min", api.TMax: "max", api.TWait: "wait",

	api.TOpen: "(", api.TClose: ")", api.TOpenRow: "[", api.TCloseRow: "]",
	api.TOpenBody: "{", api.TEndBody: "}", api.TComma: ",", api.TColon: ":",
	api.TSet: "=", api.OpOr: "||", api.OpAnd: "&&", api.OpEq: "==",
	api.OpNe: "!=", api.OpLt: "<", api.OpLe: "<=", api.OpGt: ">",
	api.OpGe: ">=", api.OpBitOr: "|", api.OpBitXor: "^", api.OpBitAnd: "&",
	api.OpShl: "<<", api.OpShr: ">>", api.OpAdd: "+", api.OpSub: "-",
	api.OpMul: "*", api.OpDiv: "/", api.OpMod: "%", api.OpNot: "!",
	api.OpFlip: "~",
}

// Word is the kind of token that a word of the language is; TName for any other name; 0 for what is no name.
func Word(s string) int {
	if s == "" || !isLetter(rune(s[0])) {
		return 0
	}
	tok, code := readName(s)
	if code != api.OK || tok.Text != s {
		return 0
	}
	return tok.Kind
}

// Mark is how the tokens of a kind are spelled: a word, a mark or an operator; "" for the others.
func Mark(kind int) string {
	if kind < 0 || kind >= len(spelling) {
		return ""
	}
	return spelling[kind]
}

func wordKind(name string) int {
	for kind := api.TSeed; kind <= api.TWait; kind++ {
		if spelling[kind] == name {
			return kind
		}
	}
	return api.TName
}

func markKind(text string) int {
	for kind := api.TOpen; kind <= api.OpFlip; kind++ {
		if spelling[kind] == text {
			return kind
		}
	}
	return 0
}
