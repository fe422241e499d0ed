// Package words has lines of words: programs as text are made of them, and what is asked of the desk, and what it answers.
package words

import (
	"strconv"
	"strings"
)

// mostDigits is how many digits a number may have.
const mostDigits = 6

// Line is the line of these words.
func Line(words ...string) string { return strings.Join(words, " ") + "\n" }

// Lines are the lines of s, without their line feeds; false, if the last one has none.
func Lines(s string) ([]string, bool) {
	if s == "" {
		return nil, true
	}
	inner, whole := strings.CutSuffix(s, "\n")
	if !whole {
		return nil, false
	}
	return strings.Split(inner, "\n"), true
}

// Of are the words of a line: there is at least one, an empty one maybe.
func Of(line string) []string { return strings.Split(line, " ") }

// Numbers are these numbers as words.
func Numbers(numbers ...int) []string {
	told := make([]string, len(numbers))
	for i, n := range numbers {
		told[i] = strconv.Itoa(n)
	}
	return told
}

// Number is the number that a word tells; false, if it tells none as it must be told.
func Number(word string) (int, bool) {
	n, err := strconv.Atoi(word)
	// A sign +, or a 0 ahead, would not come back.
	if err != nil || n < 0 || len(word) > mostDigits || strconv.Itoa(n) != word {
		return 0, false
	}
	return n, true
}
