package course_test

import (
	"math/rand"
	"regexp"
	"slices"
	"strings"
	"testing"

	"niblick/api"
	"niblick/course"
)

const textOfOne = "hole one\ntee 0 0\ncup 100 0\n" +
	"area rough -10,-20 120,-20 120,20 -10,20\n" +
	"area fairway 10,-10 90,-10 90,10 10,10\n" +
	"area green 90,-5 110,-5 110,5 90,5\n" +
	"area water 40,-20 50,-20 50,20 40,20\n"

func parses(t *testing.T, what, text string, want course.Hole) {
	t.Helper()
	h, line, e := course.Parse(text)
	gives(t, what, h, e, want)
	is(t, what, line, 0)
}

func parsesNot(t *testing.T, what, text string, wantLine int, want api.Errno) {
	t.Helper()
	h, line, e := course.Parse(text)
	fails(t, what, h, e, want)
	is(t, what, line, wantLine)
}

func TestP2_5PrintAndParse(t *testing.T) {
	text, e := course.Print(one())
	gives(t, "the example", text, e, textOfOne)
	parses(t, "the example", textOfOne, one())
	h := one()
	h.Name, h.Line = "Old_Course_18", []api.Place{at(50, -3), at(-1000000, 1000000), at(0, 0)}
	want := strings.Replace(strings.Replace(textOfOne, "one", "Old_Course_18", 1), "area", "via 50 -3\nvia -1000000 1000000\nvia 0 0\narea", 1)
	text, e = course.Print(h)
	gives(t, "a line", text, e, want)
	parses(t, "a line", want, h)
}

func TestP2_5EachHoleWithItsText(t *testing.T) {
	random := rand.New(rand.NewSource(9))
	for i := range 300 {
		h := randomHole(random, []int{3, 100, api.MaxPlace}[i%3])
		text, e := course.Print(h)
		is(t, "Print", e, api.OK)
		parses(t, text, text, h)
	}
}

// sized returns a hole whose text has so many bytes, about 4096.
func sized(size int) course.Hole {
	bytes := func(h course.Hole) int {
		text, e := course.Print(h)
		if e != api.OK {
			return api.MaxText + 1
		}
		return len(text)
	}
	h := course.Hole{Name: "a", Areas: []course.Area{{Kind: "green", Corners: box(0, 0, 1, 1)}}}
	for _, l := range [][]api.Place{comb(64), {at(0, 0), at(1, 0), at(0, 1)}} {
		for {
			more := h
			more.Areas = append(slices.Clone(h.Areas), course.Area{Kind: "green", Corners: l})
			if bytes(more) > min(size, api.MaxText) {
				break
			}
			h = more
		}
	}
	rest := size - bytes(h)
	h.Line = make([]api.Place, rest/len("via 0 0\n"))
	h.Name += strings.Repeat("b", rest%len("via 0 0\n"))
	return h
}

func TestP2_5LongTexts(t *testing.T) {
	for size := 4080; size <= 4096; size++ {
		text, e := course.Print(sized(size))
		is(t, "Print", e, api.OK)
		is(t, "bytes", len(text), size)
		parses(t, "up to 4096 bytes", text, sized(size))
	}
	for size := 4097; size <= 4100; size++ {
		is(t, "a hole with a longer text", course.CheckHole(sized(size)), api.OK)
		text, e := course.Print(sized(size))
		fails(t, "more than 4096 bytes", text, e, api.ErrLong)
	}
	text, _ := course.Print(sized(4096))
	parsesNot(t, "4097 bytes", strings.Replace(text, "hole a", "hole aa", 1), 0, api.ErrLong)
	parsesNot(t, "4097 bytes, torn", strings.Repeat("x", 4097), 0, api.ErrLong)
	parsesNot(t, "4096 bytes, torn", strings.Repeat("x", 4096), 0, api.ErrTorn)
	parsesNot(t, "4096 bytes", strings.Repeat("x", 4095)+"\n", 1, api.ErrSyntax)
	parsesNot(t, "very long", strings.Repeat("\n", 1000000), 0, api.ErrLong)
}

func TestP2_5TornTexts(t *testing.T) {
	for _, text := range []string{"", " ", "hole one", "x", textOfOne[:len(textOfOne)-1], textOfOne + "x", textOfOne + " ", textOfOne[:30], "hole one\ntee", "\n\r", "x\n\ny"} {
		parsesNot(t, text, text, 0, api.ErrTorn)
	}
}

// wrong has, by lines, what is none there.
func wrong() [][]string {
	general := []string{"", " ", "x", "hole", "hole one two", "tee 1 2 3", "cup 1", "via", "area", "area ", "#", "\r", "HOLE ONE"}
	places := func(word string) []string {
		l := slices.Clone(general)
		for _, rest := range []string{
			"", " ", " 0", " 0 ", " 0  0", "  0 0", " 0 0 ", " 0 0 0", " 0,0", " 00 0", " 0 00", " -0 0", " 0 -0", " +1 0", " 0 +1", " 01 0", " 0 -01", " 1000000000 0", " 0 -1000000000",
			" 0x1 0", " 1e3 0", " 1.0 0", " - 0", " 0 -", " a 0", " 0 a", " --1 0", " 1_0 0", " 0 0\r", "\t0 0", " 0\t0", " ٣ 0", " 0 99999999999999999999", " 1- 0",
		} {
			l = append(l, word+rest)
		}
		return append(l, " "+word+" 0 0", strings.ToUpper(word)+" 0 0", word+"s 0 0")
	}
	areas := slices.Concat(general, []string{
		"hole one", "tee 0 0", "cup 0 0", "area  0,0", "area  ", "area green ", "area green 0", "area green 0,", "area green ,0", "area green ,", "area green 0,0,", "area green 0,0,0",
		"area green 0 0", "area green 0,0 ", "area green  0,0", "area green 0,0  1,1", "area green 00,0", "area green 0,00", "area green 0,-0", "area green -0,0", "area green 0;0", "area green 0.0",
		"area green 1000000000,0", "area green 0,-1000000000", "area green +0,0", "area green 0,0\r", " area green 0,0", "Area green", "areas green", "area green 0,0 1,x", "area green a,0",
	})
	names := append(slices.Clone(general), "hole ", "hole  one", " hole one", "hole one ", "hole one  ", "Hole one", "tee 0 0", "hole\tone", "hole\r", "holes one", "one")
	via := append(places("via"), "hole one", "tee 0 0", "cup 0 0", "area  0,0", "area green 0", "area green 0 0")
	return [][]string{names, append(places("tee"), "hole one", "cup 0 0", "via 0 0", "area green"), append(places("cup"), "tee 0 0", "via 0 0", "area green"), via, via, areas, append(areas, "via 1 1"), append(areas, "via 1 1")}
}

func TestP2_5SyntaxErrors(t *testing.T) {
	good := strings.Split("hole one|tee 0 0|cup 100 0|via 1 2|via 3 4|area rough -10,-20 120,-20 120,20 -10,20|area green 90,-5 110,-5 110,5 90,5|area water 40,-20 50,-20 50,20 40,20", "|")
	text := func(lines []string) string { return strings.Join(lines, "\n") + "\n" }
	h := one()
	h.Line, h.Areas = []api.Place{at(1, 2), at(3, 4)}, []course.Area{h.Areas[0], h.Areas[2], h.Areas[3]}
	parses(t, "without an error", text(good), h)
	for i, l := range wrong() {
		for _, line := range l {
			lines := slices.Clone(good)
			lines[i] = line
			parsesNot(t, text(lines), text(lines), i+1, api.ErrSyntax)
			lines = append(lines, "x")
			parsesNot(t, "the first of two errors", text(lines), i+1, api.ErrSyntax)
			lines[0] = "hole 1"
			if i > 0 {
				parsesNot(t, "before the error of the hole", text(lines), i+1, api.ErrSyntax)
			}
			parsesNot(t, "the last line", text(slices.Concat(good[:i], []string{line})), i+1, api.ErrSyntax)
		}
	}
	parsesNot(t, "one line", text(good[:1]), 2, api.ErrSyntax)
	parsesNot(t, "two lines", text(good[:2]), 3, api.ErrSyntax)
	parsesNot(t, "an empty line", "\n", 1, api.ErrSyntax)
	parsesNot(t, "two empty lines", "\n\n", 1, api.ErrSyntax)
	parsesNot(t, "an empty line at the end", textOfOne+"\n", 8, api.ErrSyntax)
	parsesNot(t, "an empty line in the middle", strings.Replace(textOfOne, "\n", "\n\n", 1), 2, api.ErrSyntax)
	parsesNot(t, "carriage returns", strings.ReplaceAll(textOfOne, "\n", "\r\n"), 2, api.ErrSyntax)
}

func TestP2_5ErrorsOfParsedHoles(t *testing.T) {
	for _, x := range []struct {
		name, from, to string
		want           api.Errno
	}{
		{"no name", "one", "1", api.ErrName},
		{"a long name", "one", strings.Repeat("a", 25), api.ErrName},
		{"a name that is no text", "one", "\xff\xfe", api.ErrName},
		{"a name with a carriage return", "one", "one\r", api.ErrName},
		{"nine digits of the tee", "tee 0", "tee 999999999", api.ErrRange},
		{"nine digits of the cup", "cup 100", "cup -999999999", api.ErrRange},
		{"a corner of the line", "area", "via 0 -1000001\narea", api.ErrRange},
		{"17 corners of the line", "area", strings.Repeat("via 0 0\n", 17) + "area", api.ErrMany},
		{"33 areas", "area rough", strings.Repeat("area rough 0,0 1,0 0,1\n", 29) + "area rough", api.ErrMany},
		{"an unknown kind", "fairway", "sand", api.ErrKind},
		{"the kind out", "fairway", "out", api.ErrKind},
		{"a corner as a kind", "fairway ", "", api.ErrKind},
		{"a kind with a comma", "fairway", "a,b", api.ErrKind},
		{"no corners", "area rough", "area rough\narea rough", api.ErrShape},
		{"two corners", "area rough", "area rough 0,0 1,1\narea rough", api.ErrShape},
		{"65 corners", "area rough", "area rough" + strings.Repeat(" 0,0", 65) + "\narea rough", api.ErrMany},
		{"a corner", "10,10", "999999999,-999999999", api.ErrRange},
		{"not simple", "10,10", "10,-10", api.ErrPolygon},
		{"the tee in the water", "tee 0 0", "tee 45 0", api.ErrArea},
		{"the cup in no green", "green", "tee", api.ErrArea},
	} {
		parsesNot(t, x.name, strings.Replace(textOfOne, x.from, x.to, 1), 0, x.want)
	}
	parsesNot(t, "no areas", "hole one\ntee 0 0\ncup 1 0\n", 0, api.ErrArea)
	for i := range 16 {
		h := one()
		h.Line = make([]api.Place, i+1)
		parses(t, "up to 16 corners of the line", strings.Replace(textOfOne, "area", strings.Repeat("via 0 0\n", i+1)+"area", 1), h)
	}
}

var (
	word      = `[^ \n]+`
	integer   = `(0|-?[1-9][0-9]{0,8})`
	lineForms = []*regexp.Regexp{
		regexp.MustCompile(`\Ahole ` + word + `\z`),
		regexp.MustCompile(`\Atee ` + integer + ` ` + integer + `\z`),
		regexp.MustCompile(`\Acup ` + integer + ` ` + integer + `\z`),
	}
	viaForm  = regexp.MustCompile(`\Avia ` + integer + ` ` + integer + `\z`)
	areaForm = regexp.MustCompile(`\Aarea ` + word + `( ` + integer + `,` + integer + `)*\z`)
)

// brokenLine returns the number of the first line that has not its form, 0 if there is none.
func brokenLine(text string) int {
	lines := strings.Split(strings.TrimSuffix(text, "\n"), "\n")
	areas := false
	for i, line := range lines {
		switch {
		case i < 3 && lineForms[i].MatchString(line):
		case i >= 3 && !areas && viaForm.MatchString(line):
		case i >= 3 && areaForm.MatchString(line):
			areas = true
		default:
			return i + 1
		}
	}
	if len(lines) < 3 {
		return len(lines) + 1
	}
	return 0
}

// Texts with a few changes have their error where the forms of lines say, and what can be read is printed again as it was.
func TestP2_5ChangedTexts(t *testing.T) {
	random := rand.New(rand.NewSource(10))
	read, broken := 0, 0
	for range 20000 {
		text := []byte(strings.Replace(textOfOne, "area", "via 7 -8\narea", 1))
		for range 1 + random.Intn(3) {
			i, length := random.Intn(len(text)), random.Intn(3)
			piece := []string{"", "0", "-", " ", "\n", ",", "1", "9", "area ", "via 1 1\n", "x", "tee 0 0\n"}[random.Intn(12)]
			text = slices.Replace(text, i, min(i+length, len(text)), []byte(piece)...)
		}
		if !strings.HasSuffix(string(text), "\n") {
			text = append(text, '\n')
		}
		h, line, e := course.Parse(string(text))
		want := brokenLine(string(text))
		if line != want || (e == api.ErrSyntax) != (want > 0) || e == api.ErrTorn || e == api.ErrLong {
			t.Fatalf("%q: got the error %d in the line %d, want the line %d", text, e, line, want)
		}
		if e != api.OK {
			broken++
			fails(t, string(text), h, e, e)
			continue
		}
		read++
		again, e := course.Print(h)
		gives(t, "printed again", again, e, string(text))
	}
	if read < 500 || broken < 500 {
		t.Errorf("%d texts were read, %d were not", read, broken)
	}
}
