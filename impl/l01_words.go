package impl

import (
	"strconv"
	"strings"
)

const (
	MaxText   = 20000
	MaxNumber = 1000000000
	MaxWords  = 600
	MaxParts  = 12
)

const (
	hexFigures = "0123456789abcdef"
	blank      = ' '
	lastInLine = '~'
)

func Hex(text string) (string, bool) {
	if len(text) > MaxText {
		return "", false
	}
	figures := make([]byte, 0, 2*len(text))
	for i := range len(text) {
		figures = append(figures, hexFigures[text[i]>>4], hexFigures[text[i]&15])
	}
	return string(figures), true
}

func Unhex(text string) (string, bool) {
	if len(text)%2 != 0 || len(text) > 2*MaxText {
		return "", false
	}
	plain := make([]byte, len(text)/2)
	for i := range plain {
		high := strings.IndexByte(hexFigures, text[2*i])
		low := strings.IndexByte(hexFigures, text[2*i+1])
		if high < 0 || low < 0 {
			return "", false
		}
		plain[i] = byte(high<<4 | low)
	}
	return string(plain), true
}

func Decimal(n int) string { return strconv.Itoa(n) }

func ReadDecimal(text string) (int, bool) {
	n, err := strconv.Atoi(text)
	if err != nil || n < 0 || n > MaxNumber {
		return 0, false
	}
	// Atoi also takes a sign and needless noughts, which Decimal never writes.
	if Decimal(n) != text {
		return 0, false
	}
	return n, true
}

func PartsOf(line string) ([]string, bool) {
	if len(line) > MaxWords {
		return nil, false
	}
	var parts []string
	begin, at := 0, 0
scan:
	for ; at < len(line); at++ {
		switch b := line[at]; {
		case b < blank || b > lastInLine:
			break scan
		case b == blank:
			parts = appendPart(parts, line[begin:at])
			begin = at + 1
		}
	}
	if at < len(line) {
		return nil, false
	}
	parts = appendPart(parts, line[begin:])
	if len(parts) > MaxParts {
		return nil, false
	}
	return parts, true
}

// Blanks side by side, or at an end of the line, have nothing between them.
func appendPart(parts []string, part string) []string {
	if part == "" {
		return parts
	}
	return append(parts, part)
}

func Brought(n int, least int, most int) int {
	if n < least || most < least {
		return least
	}
	if n > most {
		return most
	}
	return n
}
