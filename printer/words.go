package printer

import (
	"newel/api"
	"newel/tokens"
)

// Words returns the canonical forms of the tokens of a text. An interpolated string is one word.
func Words(text string) ([]string, api.Fault) {
	list, f := tokens.Raw(text)
	if f.Code != api.OK {
		return nil, f
	}
	var words []string
	for len(list) > 0 {
		size := wordSize(list)
		word, e := wordOf(list[:size])
		if e != api.OK {
			return nil, api.Fault{Code: e}
		}
		words = append(words, word)
		list = list[size:]
	}
	return words, api.Fault{}
}

// wordSize returns the number of tokens of the word that begins a list.
func wordSize(list []tokens.Token) int {
	open := 0 // interpolated strings
	for i, t := range list {
		switch t.Kind {
		case tokens.Start:
			open++
		case tokens.End:
			open--
		}
		if open == 0 {
			return i + 1
		}
	}
	return len(list)
}

// wordOf returns the word of some tokens.
func wordOf(list []tokens.Token) (string, api.Errno) {
	// A bracket alone is no text that tokens.Show would write.
	if list[0].Kind == tokens.Mark {
		return list[0].Text, api.OK
	}
	return tokens.Show(list)
}
