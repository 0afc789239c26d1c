package regex

import (
	"slices"
	"strconv"
	"strings"

	"gabarit/api"
)

// Print returns the canonical text of x.
func Print(x api.Regex) (string, api.Errno) {
	if e := Check(x); e != api.OK {
		return "", e
	}
	return textOf(x), api.OK
}

func textOf(x api.Regex) string {
	switch x.Kind {
	case api.RxSet:
		return setText(x.Set)
	case api.RxSeq:
		return joined(x.Args, "", api.RxAlt, api.RxSeq, api.RxEmpty)
	case api.RxAlt:
		return joined(x.Args, "|", api.RxAlt)
	case api.RxTimes:
		return joined(x.Args, "", api.RxAlt, api.RxSeq, api.RxTimes, api.RxEmpty) + timesText(x.Low, x.High)
	}
	return ""
}

// joined returns the texts of l with a sign between them, those of some kinds in parentheses.
func joined(l []api.Regex, sign string, enclosed ...int) string {
	var texts []string
	for _, x := range l {
		text := textOf(x)
		if slices.Contains(enclosed, x.Kind) {
			text = "(" + text + ")"
		}
		texts = append(texts, text)
	}
	return strings.Join(texts, sign)
}

func timesText(low, high int) string {
	switch {
	case low == 0 && high == 1:
		return "?"
	case low == 0 && high == unlimited:
		return "*"
	case low == 1 && high == unlimited:
		return "+"
	case high == unlimited:
		return "{" + strconv.Itoa(low) + ",}"
	case low == high:
		return "{" + strconv.Itoa(low) + "}"
	}
	return "{" + strconv.Itoa(low) + "," + strconv.Itoa(high) + "}"
}

func setText(set []api.Range) string {
	if len(set) == 1 && set[0].Low == set[0].High {
		return characterText(set[0].Low, signs)
	}
	var text strings.Builder
	text.WriteByte('[')
	for _, r := range set {
		text.WriteString(characterText(r.Low, setSigns))
		if r.Low < r.High {
			text.WriteByte('-')
			text.WriteString(characterText(r.High, setSigns))
		}
	}
	text.WriteByte(']')
	return text.String()
}

// characterText returns the text of c where these signs mean something of their own.
func characterText(c int32, special string) string {
	switch {
	case c == '\n':
		return `\n`
	case c == '\r':
		return `\r`
	case c == '\t':
		return `\t`
	case strings.ContainsRune(special, c):
		return `\` + string(c)
	}
	return string(c)
}
