package tests

import (
	"slices"
	"strings"
)

// eachTextChangedInOnePlace calls check with a text, with a byte of it changed, added or removed at
// every place, and with its beginnings and ends.
func eachTextChangedInOnePlace(text string, check func(string)) {
	for place := range len(text) + 1 {
		before, after := text[:place], text[place:]
		check(before)
		check(after)
		for c := range 256 {
			by := string([]byte{byte(c)})
			check(before + by + after)
			if after != "" {
				check(before + by + after[1:])
			}
		}
		if after != "" {
			check(before + after[1:])
		}
	}
}

// eachTextWithChangedWords calls check with the texts in which words of a text are left out,
// doubled and swapped, others are added, or one or two words are replaced by others.
func eachTextWithChangedWords(text string, others []string, check func(string)) {
	words := strings.Split(text, " ")
	join := func(words []string) { check(strings.Join(words, " ")) }
	for i := range words {
		join(slices.Delete(slices.Clone(words), i, i+1))
		for j := range words {
			changed := slices.Clone(words)
			changed[i], changed[j] = changed[j], changed[i]
			join(changed)
			join(slices.Insert(slices.Clone(words), i, words[j]))
			for _, one := range others {
				for _, other := range others {
					changed = slices.Clone(words)
					changed[i], changed[j] = one, other
					join(changed)
				}
			}
		}
	}
	for i := range len(words) + 1 {
		for _, other := range others {
			join(slices.Insert(slices.Clone(words), i, other))
		}
	}
}
