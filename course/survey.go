package course

import (
	"strconv"
	"strings"

	"niblick/api"
)

// The notation of surveys.
const (
	blank      = " "
	comma      = ","
	lineFeed   = "\n"
	wordDigits = 9
)

// The first words of lines.
const (
	nameLine = "hole"
	teeLine  = "tee"
	cupLine  = "cup"
	viaLine  = "via"
	areaLine = "area"
)

// Print returns the text of a hole.
func Print(h Hole) (string, api.Errno) {
	if e := CheckHole(h); e != api.OK {
		return "", e
	}
	lines := []string{
		nameLine + blank + h.Name,
		teeLine + blank + pair(h.Tee, blank),
		cupLine + blank + pair(h.Cup, blank),
	}
	for _, p := range h.Line {
		lines = append(lines, viaLine+blank+pair(p, blank))
	}
	for _, area := range h.Areas {
		words := []string{areaLine, area.Kind}
		for _, p := range area.Corners {
			words = append(words, pair(p, comma))
		}
		lines = append(lines, strings.Join(words, blank))
	}
	text := strings.Join(lines, lineFeed) + lineFeed
	if len(text) > api.MaxText {
		return "", api.ErrLong
	}
	return text, api.OK
}

func pair(p api.Place, between string) string {
	return strconv.Itoa(p.X) + between + strconv.Itoa(p.Y)
}

// Parse returns the hole with a text, or the line of its first error.
func Parse(s string) (Hole, int, api.Errno) {
	if len(s) > api.MaxText {
		return Hole{}, 0, api.ErrLong
	}
	text, whole := strings.CutSuffix(s, lineFeed)
	if !whole {
		return Hole{}, 0, api.ErrTorn
	}
	var r reader
	opening := []func([]string) bool{r.takeName, r.takeTee, r.takeCup}
	lines := strings.Split(text, lineFeed)
	for i, line := range lines {
		take := r.takeRest
		if i < len(opening) {
			take = opening[i]
		}
		if !take(strings.Split(line, blank)) {
			return Hole{}, i + 1, api.ErrSyntax
		}
	}
	if len(lines) < len(opening) {
		return Hole{}, len(lines) + 1, api.ErrSyntax
	}
	if e := CheckHole(r.hole); e != api.OK {
		return Hole{}, 0, e
	}
	return r.hole, 0, api.OK
}

// reader has the hole as far as its text was read. Its methods take the words of a line, and report whether they are right; two neighbouring blanks have an empty word between them.
type reader struct {
	hole Hole
}

func (r *reader) takeName(words []string) bool {
	if len(words) != 2 || words[0] != nameLine || words[1] == "" {
		return false
	}
	r.hole.Name = words[1]
	return true
}

func (r *reader) takeTee(words []string) (ok bool) {
	r.hole.Tee, ok = placeLine(words, teeLine)
	return ok
}

func (r *reader) takeCup(words []string) (ok bool) {
	r.hole.Cup, ok = placeLine(words, cupLine)
	return ok
}

// takeRest takes a line behind the first three.
func (r *reader) takeRest(words []string) bool {
	if words[0] == viaLine && len(r.hole.Areas) == 0 {
		return r.takeVia(words)
	}
	return r.takeArea(words)
}

func (r *reader) takeVia(words []string) bool {
	p, ok := placeLine(words, viaLine)
	r.hole.Line = append(r.hole.Line, p)
	return ok
}

func (r *reader) takeArea(words []string) bool {
	if len(words) < 2 || words[0] != areaLine || words[1] == "" {
		return false
	}
	area := Area{Kind: words[1]}
	for _, word := range words[2:] {
		x, y, _ := strings.Cut(word, comma)
		p, ok := placeOf(x, y)
		if !ok {
			return false
		}
		area.Corners = append(area.Corners, p)
	}
	r.hole.Areas = append(r.hole.Areas, area)
	return true
}

// placeLine returns the place of a line that consists of a word and a place.
func placeLine(words []string, begin string) (api.Place, bool) {
	if len(words) != 3 || words[0] != begin {
		return api.Place{}, false
	}
	return placeOf(words[1], words[2])
}

func placeOf(x, y string) (api.Place, bool) {
	a, isX := integerOf(x)
	b, isY := integerOf(y)
	return api.Place{X: a, Y: b}, isX && isY
}

func integerOf(text string) (int, bool) {
	digits, _ := strings.CutPrefix(text, "-")
	if len(digits) > wordDigits {
		return 0, false
	}
	// Another text of the same integer has a sign or zeros that do not belong there.
	n, e := strconv.Atoi(text)
	return n, e == nil && strconv.Itoa(n) == text
}
