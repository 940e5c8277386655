package rating_test

import (
	"math"
	"math/big"
	"math/rand"
	"slices"
	"strings"
	"testing"

	"niblick/api"
	"niblick/rating"
)

func TestP3_4Examples(t *testing.T) {
	l := []api.Rat{"4", "1", "3", "10"}
	median, e := rating.Median(l)
	gives(t, "Median", median, e, "7/2")
	mean, e := rating.Mean(l)
	gives(t, "Mean", mean, e, "9/2")
	points := []api.Point{{X: "1", Y: "2"}, {X: "2", Y: "3"}, {X: "3", Y: "7"}}
	slope, offset, e := rating.Fit(points)
	gives(t, "the slope", slope, e, "5/2")
	gives(t, "the offset", offset, e, "-1")
	squares, e := rating.Squares(points, slope, offset)
	gives(t, "Squares", squares, e, "3/2")
	drift, e := rating.Drift(sample(), 0, 0, []int{8, 9, 9})
	gives(t, "Drift", drift, e, "9/10")
}

// listErrors are lists of numbers with their errors.
var listErrors = []struct {
	name string
	l    []api.Rat
	want api.Errno
}{
	{"nothing", nil, api.ErrEmpty},
	{"an empty list", []api.Rat{}, api.ErrEmpty},
	{"257 numbers", slices.Repeat([]api.Rat{"1"}, 257), api.ErrMany},
	{"257 that are none", make([]api.Rat, 257), api.ErrMany},
	{"256 that are none", make([]api.Rat, 256), api.ErrForm},
	{"the first number with an error", []api.Rat{"1", most + "0", "x"}, api.ErrLarge},
	{"the first number without its form", []api.Rat{"1", "x", most + "0"}, api.ErrForm},
	{"the last number", append(slices.Repeat([]api.Rat{"1"}, 255), "01"), api.ErrForm},
}

func TestP3_4ErrorsOfNumbers(t *testing.T) {
	for _, x := range listErrors {
		mean, e := rating.Mean(x.l)
		fails(t, x.name, mean, e, x.want)
		median, e := rating.Median(x.l)
		fails(t, x.name, median, e, x.want)
	}
	for _, x := range badNumbers {
		mean, e := rating.Mean([]api.Rat{"5", x.text})
		fails(t, "Mean", mean, e, x.e)
		median, e := rating.Median([]api.Rat{"5", x.text})
		fails(t, "Median", median, e, x.e)
	}
}

func TestP3_4MeanAndMedian(t *testing.T) {
	var all []api.Rat
	for i := range 256 {
		all = append(all, ratOf(int64(i*i), 1))
	}
	for _, x := range []struct {
		l            []api.Rat
		mean, median api.Rat
	}{
		{[]api.Rat{"-7/2"}, "-7/2", "-7/2"},
		{[]api.Rat{"1", "2"}, "3/2", "3/2"},
		{[]api.Rat{"2", "1/2", "1"}, "7/6", "1"},
		{[]api.Rat{"10", "9", "1"}, "20/3", "9"},
		{[]api.Rat{"5", "5", "5", "5"}, "5", "5"},
		{[]api.Rat{"1/3", "-1/3"}, "0", "0"},
		{[]api.Rat{"100", "-1", "3", "-100", "4"}, "6/5", "3"},
		{[]api.Rat{"10", "2", "1/3", "9", "1/2", "3/7"}, "935/252", "5/4"},
		{[]api.Rat{"-10", "-9", "-1", "-2"}, "-11/2", "-11/2"},
		{[]api.Rat{"7", "1", "1", "1"}, "5/2", "1"},
		{all[:255], "64643/3", "16129"},
		{all, "43435/2", "32513/2"},
	} {
		for range 3 {
			mean, e := rating.Mean(x.l)
			gives(t, "Mean", mean, e, x.mean)
			median, e := rating.Median(x.l)
			gives(t, "Median", median, e, x.median)
			x.l = append(slices.Clone(x.l[1:]), x.l[0])
		}
		slices.Reverse(x.l)
	}
}

func TestP3_4LargeMeansAndMedians(t *testing.T) {
	l := parts()
	for _, x := range []struct {
		name         string
		l            []api.Rat
		mean, median api.Rat
	}{
		{"a great number", []api.Rat{most}, most, most},
		{"great numbers", slices.Repeat([]api.Rat{most}, 256), most, most},
		{"great numbers below 0", slices.Repeat([]api.Rat{"-" + most}, 255), "-" + most, "-" + most},
		{"parts with the sum 2", l, "1/2", "1/2"},
		{"two parts", l[:2], "", ""},
		{"three parts", []api.Rat{l[0], l[0], l[1]}, "", l[0]},
		{"parts of another sum", []api.Rat{"-" + l[1], "-" + l[0], l[0], l[1]}, "0", "0"},
		{"middle parts", []api.Rat{"-5", l[0], l[1], "6"}, "", ""},
	} {
		mean, e := rating.Mean(x.l)
		givesOrLarge(t, x.name, mean, e, x.mean)
		median, e := rating.Median(x.l)
		givesOrLarge(t, x.name, median, e, x.median)
	}
}

// pointErrors are points with their errors.
var pointErrors = []struct {
	name string
	l    []api.Point
	want api.Errno
}{
	{"nothing", nil, api.ErrEmpty},
	{"257 points", slices.Repeat([]api.Point{{X: "1", Y: "1"}}, 257), api.ErrMany},
	{"257 that are none", make([]api.Point, 257), api.ErrMany},
	{"256 that are none", make([]api.Point, 256), api.ErrForm},
	{"X before Y", []api.Point{{X: most + "0", Y: "x"}}, api.ErrLarge},
	{"Y after X", []api.Point{{X: "1", Y: "x"}}, api.ErrForm},
	{"Y before another X", []api.Point{{X: "1", Y: most + "0"}, {X: "x", Y: "1"}}, api.ErrLarge},
	{"X of the second point", []api.Point{{X: "1", Y: "1"}, {X: "x", Y: most + "0"}}, api.ErrForm},
	{"equal X that are none", []api.Point{{X: "x", Y: "1"}, {X: "x", Y: "2"}}, api.ErrForm},
	{"equal X with a wrong Y", []api.Point{{X: "1", Y: "1"}, {X: "1", Y: most + "0"}}, api.ErrLarge},
}

func TestP3_4ErrorsOfPoints(t *testing.T) {
	for _, x := range pointErrors {
		slope, offset, e := rating.Fit(x.l)
		fails(t, x.name, slope, e, x.want)
		fails(t, x.name, offset, e, x.want)
		for _, line := range [][2]api.Rat{{"1", "1"}, {"x", "1"}, {"1", most + "0"}} {
			squares, e := rating.Squares(x.l, line[0], line[1])
			fails(t, x.name, squares, e, x.want)
		}
	}
	points := []api.Point{{X: "1", Y: "2"}, {X: "2", Y: "3"}}
	for _, x := range badNumbers {
		for _, l := range [][]api.Point{{{X: x.text, Y: "1"}, points[0]}, {points[0], {X: "1", Y: x.text}}} {
			slope, offset, e := rating.Fit(l)
			fails(t, "Fit", slope, e, x.e)
			fails(t, "Fit", offset, e, x.e)
			squares, e := rating.Squares(l, "1", "1")
			fails(t, "Squares", squares, e, x.e)
		}
		squares, e := rating.Squares(points, x.text, "y")
		fails(t, "the slope before the offset", squares, e, x.e)
		squares, e = rating.Squares(points, "1", x.text)
		fails(t, "the offset", squares, e, x.e)
	}
	for _, l := range [][]api.Point{{{X: "1", Y: "2"}}, {{X: "1", Y: "2"}, {X: "1", Y: "3"}}, slices.Repeat([]api.Point{{X: "-1/3", Y: most}}, 256)} {
		slope, offset, e := rating.Fit(l)
		fails(t, "equal X", slope, e, api.ErrSingular)
		fails(t, "equal X", offset, e, api.ErrSingular)
	}
}

// line returns the points of a line with 256 numbers X.
func line(slope, offset *big.Rat) []api.Point {
	var l []api.Point
	for i := range 256 {
		l = append(l, api.Point{X: ratOf(int64(i), 3), Y: rat(plus(offset, times(slope, big.NewRat(int64(i), 3))))})
	}
	return l
}

func TestP3_4Fit(t *testing.T) {
	for _, x := range []struct {
		l                      []api.Point
		slope, offset, squares api.Rat
	}{
		{[]api.Point{{X: "1", Y: "2"}, {X: "3", Y: "8"}}, "3", "-1", "0"},
		{[]api.Point{{X: "3", Y: "8"}, {X: "1", Y: "2"}}, "3", "-1", "0"},
		{[]api.Point{{X: "1", Y: "2"}, {X: "1", Y: "4"}, {X: "3", Y: "8"}}, "5/2", "1/2", "2"},
		{[]api.Point{{X: "0", Y: "5"}, {X: "1", Y: "5"}, {X: "7", Y: "5"}}, "0", "5", "0"},
		{[]api.Point{{X: "0", Y: "0"}, {X: "1", Y: "1"}, {X: "2", Y: "0"}, {X: "3", Y: "1"}}, "1/5", "1/5", "4/5"},
		{[]api.Point{{X: "-1/2", Y: "1/3"}, {X: "1/2", Y: "-1/3"}}, "-2/3", "0", "0"},
		{[]api.Point{{X: "0", Y: "1"}, {X: "0", Y: "1"}, {X: "0", Y: "1"}, {X: "0", Y: "1"}, {X: "1", Y: "0"}}, "-1", "1", "0"},
		{line(big.NewRat(-7, 5), big.NewRat(2, 9)), "-7/5", "2/9", "0"},
	} {
		slope, offset, e := rating.Fit(x.l)
		gives(t, "the slope", slope, e, x.slope)
		gives(t, "the offset", offset, e, x.offset)
		squares, e := rating.Squares(x.l, x.slope, x.offset)
		gives(t, "Squares", squares, e, x.squares)
	}
}

func TestP3_4Squares(t *testing.T) {
	points := []api.Point{{X: "1", Y: "2"}, {X: "2", Y: "3"}, {X: "3", Y: "7"}}
	for _, x := range []struct{ slope, offset, want api.Rat }{
		{"0", "0", "62"}, {"5/2", "-1", "3/2"}, {"5/2", "0", "9/2"}, {"1", "0", "18"}, {"-1", "0", "134"}, {"0", "4", "14"}, {"0", "-1/2", "299/4"},
	} {
		squares, e := rating.Squares(points, x.slope, x.offset)
		gives(t, "Squares", squares, e, x.want)
	}
	squares, e := rating.Squares(points[2:], "0", "9/2")
	gives(t, "one point", squares, e, "25/4")
	squares, e = rating.Squares(slices.Repeat(points[:1], 256), "0", "1")
	gives(t, "256 points", squares, e, "256")
}

func TestP3_4LargeLines(t *testing.T) {
	for _, x := range []struct {
		name          string
		l             []api.Point
		slope, offset api.Rat
	}{
		{"great numbers", []api.Point{{X: "0", Y: most}, {X: "1", Y: most}, {X: "2", Y: most}}, "0", most},
		{"a great slope", []api.Point{{X: "0", Y: "0"}, {X: "1/" + most, Y: "1"}}, most, "0"},
		{"a slope too great", []api.Point{{X: "0", Y: "0"}, {X: "1/" + most, Y: most}}, "", ""},
		{"an offset too great", []api.Point{{X: most, Y: "0"}, {X: rat(minus(bigRat(most), whole(1))), Y: most}}, "", ""},
		{"a slope too great through the middle", []api.Point{{X: "-1/" + most, Y: "-" + most}, {X: "1/" + most, Y: most}}, "", ""},
		{"far away", []api.Point{{X: most, Y: most}, {X: "-" + most, Y: "-" + most}}, "1", "0"},
	} {
		slope, offset, e := rating.Fit(x.l)
		givesOrLarge(t, x.name, slope, e, x.slope)
		givesOrLarge(t, x.name, offset, e, x.offset)
	}
	squares, e := rating.Squares([]api.Point{{X: "1", Y: most}}, "0", "0")
	fails(t, "a great square", squares, e, api.ErrLarge)
	squares, e = rating.Squares([]api.Point{{X: most, Y: most}, {X: "-" + most, Y: "-" + most}}, "1", "0")
	gives(t, "great numbers on a line", squares, e, "0")
	// u / b less v / d is 1 / (b d), which has too many digits.
	b, _ := new(big.Int).SetString(string(most), 10)
	d := new(big.Int).Sub(b, big.NewInt(1))
	u := new(big.Int).ModInverse(d, b)
	v := new(big.Int).Mul(u, d)
	v.Sub(v, big.NewInt(1)).Div(v, b)
	point := api.Point{X: "1/" + most, Y: rat(new(big.Rat).SetFrac(u, b))}
	slope, offset := rat(new(big.Rat).SetFrac(big.NewInt(1), d)), rat(new(big.Rat).SetFrac(v, d))
	squares, e = rating.Squares([]api.Point{point}, slope, offset)
	gives(t, "a point on a line with long numbers", squares, e, "0")
}

func TestP3_4Drift(t *testing.T) {
	for _, x := range []struct {
		strokes api.Rat
		scores  []int
		want    api.Rat
	}{
		{"72", []int{72}, "0"},
		{"72", []int{80, 70}, "3"},
		{"72", []int{1}, "-71"},
		{"721/10", []int{75, 71, 73}, "9/10"},
		{"72", []int{999999999}, "999999927"},
		{"72", []int{999999999, 999999998}, "1999999853/2"},
		// 1441/20 is rounded to 721/10.
		{"1441/20", []int{73}, "9/10"},
		{"14409/200", []int{73}, "1"},
		{"1441/20", []int{73, 74}, "7/5"},
		{"5" + api.Rat(strings.Repeat("0", 599)), []int{7}, rat(minus(whole(7), bigRat("5"+api.Rat(strings.Repeat("0", 599)))))},
	} {
		drift, e := rating.Drift(flat(1, x.strokes), 0, 0, x.scores)
		gives(t, "Drift", drift, e, x.want)
		drift, e = rating.Drift(flat(1, "1", x.strokes), 0, 1, slices.Repeat(x.scores, 256/len(x.scores)))
		gives(t, "Drift", drift, e, x.want)
	}
	half := "5" + api.Rat(strings.Repeat("0", 599))
	// The rating has 601 digits, and what the score lacks has 600.
	drift, e := rating.Drift(flat(2, half), 0, 0, []int{1})
	gives(t, "a great rating", drift, e, "-"+most)
	drift, e = rating.Drift(flat(3, half), 0, 0, []int{1})
	fails(t, "a rating too great", drift, e, api.ErrLarge)
}

func TestP3_4ErrorsOfScores(t *testing.T) {
	for _, x := range []struct {
		name   string
		scores []int
		want   api.Errno
	}{
		{"no scores", nil, api.ErrEmpty},
		{"257 scores", slices.Repeat([]int{72}, 257), api.ErrMany},
		{"257 scores out of range", make([]int, 257), api.ErrMany},
		{"256 scores out of range", make([]int, 256), api.ErrRange},
		{"a score 0", []int{72, 0}, api.ErrRange},
		{"a score below 0", []int{-1, 72}, api.ErrRange},
		{"a score too great", []int{72, 72, 1000000000}, api.ErrRange},
		{"the least score", []int{math.MinInt}, api.ErrRange},
		{"the greatest score", []int{math.MaxInt}, api.ErrRange},
	} {
		drift, e := rating.Drift(sample(), 0, 0, x.scores)
		fails(t, x.name, drift, e, x.want)
		drift, e = rating.Drift(sample(), 0, 2, x.scores)
		fails(t, "a level before "+x.name, drift, e, api.ErrUnknown)
		drift, e = rating.Drift(flat(3, most), 0, 0, x.scores)
		fails(t, x.name+" before the result", drift, e, x.want)
	}
}

func randomRats(random *rand.Rand, n, digits int) []api.Rat {
	var l []api.Rat
	for range n {
		l = append(l, randomBetween(random, -9, 9, digits))
	}
	return l
}

func randomPoints(random *rand.Rand, n, digits int) []api.Point {
	var l []api.Point
	xs, ys := randomRats(random, n, digits), randomRats(random, n, digits)
	for i := range xs {
		l = append(l, api.Point{X: xs[i], Y: ys[i]})
	}
	return l
}

func sum(l []api.Rat) *big.Rat {
	s := new(big.Rat)
	for _, a := range l {
		s = plus(s, bigRat(a))
	}
	return s
}

// middle returns the middle number in ascending order, or half the sum of the two middle ones.
func middle(l []api.Rat) *big.Rat {
	ascending := slices.SortedFunc(slices.Values(l), func(a, b api.Rat) int { return bigRat(a).Cmp(bigRat(b)) })
	if n := len(l); n%2 == 0 {
		return over(plus(bigRat(ascending[n/2-1]), bigRat(ascending[n/2])), whole(2))
	}
	return bigRat(ascending[len(l)/2])
}

func TestP3_4FollowsTheDefinitions(t *testing.T) {
	random := rand.New(rand.NewSource(4))
	for i := range 600 {
		digits := []int{1, 2, 5, 120}[i%4]
		l := randomRats(random, 1+random.Intn(12), digits)
		mean, e := rating.Mean(l)
		result(t, "Mean", mean, e, over(sum(l), whole(len(l))))
		median, e := rating.Median(l)
		result(t, "Median", median, e, middle(l))

		c := randomCourse(random, digits)
		q := randomQuestion(random, c)
		var scores []int
		var numbers []api.Rat
		for range 1 + random.Intn(9) {
			scores = append(scores, 1+random.Intn(50))
			numbers = append(numbers, rat(whole(scores[len(scores)-1])))
		}
		drift, e := rating.Drift(c, q.tee, q.level, scores)
		result(t, "Drift", drift, e, minus(middle(numbers), rounded(slow{c}.exact(q.tee, q.level), 10)))

		points := randomPoints(random, 1+random.Intn(6), digits)
		slope, offset := randomBetween(random, -5, 5, digits), randomBetween(random, -5, 5, digits)
		squares, e := rating.Squares(points, slope, offset)
		want := new(big.Rat)
		for _, p := range points {
			miss := minus(minus(bigRat(p.Y), times(bigRat(slope), bigRat(p.X))), bigRat(offset))
			want = plus(want, times(miss, miss))
		}
		result(t, "Squares", squares, e, want)
	}
}

// The slope is the sum of the products of both distances from the means, over the sum of the squares of those of X.
func TestP3_4FitFollowsTheMeans(t *testing.T) {
	random := rand.New(rand.NewSource(5))
	for i := range 400 {
		points := randomPoints(random, 2+random.Intn(6), []int{1, 2, 5, 60}[i%4])
		var xs, ys []api.Rat
		for _, p := range points {
			xs, ys = append(xs, p.X), append(ys, p.Y)
		}
		meanX, meanY := over(sum(xs), whole(len(xs))), over(sum(ys), whole(len(ys)))
		above, below := new(big.Rat), new(big.Rat)
		for _, p := range points {
			x, y := minus(bigRat(p.X), meanX), minus(bigRat(p.Y), meanY)
			above, below = plus(above, times(x, y)), plus(below, times(x, x))
		}
		a, b, e := rating.Fit(points)
		if below.Sign() == 0 {
			fails(t, "the slope", a, e, api.ErrSingular)
			fails(t, "the offset", b, e, api.ErrSingular)
			continue
		}
		slope := over(above, below)
		offset := minus(meanY, times(slope, meanX))
		if !fits(slope) || !fits(offset) {
			fails(t, "the slope", a, e, api.ErrLarge)
			fails(t, "the offset", b, e, api.ErrLarge)
			continue
		}
		gives(t, "the slope", a, e, rat(slope))
		gives(t, "the offset", b, e, rat(offset))
	}
}
