package rating_test

import (
	"math/rand"
	"slices"
	"testing"

	"niblick/api"
	"niblick/rating"
)

func TestP3_2Examples(t *testing.T) {
	for _, x := range []struct {
		hole, level  int
		over, rating api.Rat
	}{{0, 0, "9/20", "1073/220"}, {1, 0, "0", "13/4"}, {0, 1, "2/5", "82/15"}, {1, 1, "0", "27/8"}} {
		over, e := rating.Obstacles(sample(), x.hole, x.level)
		gives(t, "Obstacles", over, e, x.over)
		strokes, e := rating.Hole(sample(), 0, x.hole, x.level)
		gives(t, "Hole", strokes, e, x.rating)
	}
}

// obstructed returns a course with one hole that takes 4 strokes without its obstacles.
func obstructed(weights []rating.Weight, obstacles ...rating.Obstacle) rating.Course {
	c := flat(1, "4")
	c.Sites[0].Obstacles, c.Levels[0].Weights = obstacles, weights
	return c
}

func TestP3_2Obstacles(t *testing.T) {
	weights := []rating.Weight{{Kind: "bunker", Strokes: "1/2"}, {Kind: "water", Strokes: "3"}, {Kind: "tree", Strokes: "0"}}
	for _, x := range []struct {
		name      string
		weights   []rating.Weight
		obstacles []rating.Obstacle
		want      api.Rat
	}{
		{"nothing", nil, nil, "0"},
		{"no obstacles", weights, nil, "0"},
		{"no weights", nil, []rating.Obstacle{{Kind: "water", Value: 10}}, "0"},
		{"the greatest value", weights, []rating.Obstacle{{Kind: "water", Value: 10}}, "3"},
		{"a value", weights, []rating.Obstacle{{Kind: "water", Value: 1}}, "3/10"},
		{"the value 0", weights, []rating.Obstacle{{Kind: "water", Value: 0}}, "0"},
		{"the weight 0", weights, []rating.Obstacle{{Kind: "tree", Value: 10}}, "0"},
		{"a kind without a weight", weights, []rating.Obstacle{{Kind: "green", Value: 10}}, "0"},
		{"the kind in capitals", weights, []rating.Obstacle{{Kind: "Water", Value: 10}}, "0"},
		{"a kind twice", weights, []rating.Obstacle{{Kind: "water", Value: 5}, {Kind: "water", Value: 5}}, "3"},
		{"a kind without a weight in front", weights, []rating.Obstacle{{Kind: "green", Value: 10}, {Kind: "bunker", Value: 4}, {Kind: "green", Value: 1}, {Kind: "water", Value: 7}}, "23/10"},
		{"16 obstacles", weights, slices.Repeat([]rating.Obstacle{{Kind: "bunker", Value: 9}}, 16), "36/5"},
	} {
		c := obstructed(x.weights, x.obstacles...)
		over, e := rating.Obstacles(c, 0, 0)
		gives(t, x.name, over, e, x.want)
		strokes, e := rating.Hole(c, 0, 0, 0)
		gives(t, x.name, strokes, e, rat(plus(bigRat(x.want), whole(4))))
	}
}

func TestP3_2Hole(t *testing.T) {
	table := []api.Point{{X: "100", Y: "3"}, {X: "200", Y: "3"}, {X: "400", Y: "9/2"}, {X: "500", Y: "5"}}
	for _, x := range []struct {
		length int
		want   api.Rat
	}{{1, "3"}, {99, "3"}, {100, "3"}, {150, "3"}, {200, "3"}, {201, "1203/400"}, {300, "15/4"}, {400, "9/2"}, {401, "901/200"}, {500, "5"}, {501, "5"}, {10000, "5"}} {
		c := single(x.length, "200", "150", plain())
		c.Levels[0].Strokes = table
		strokes, e := rating.Hole(c, 0, 0, 0)
		gives(t, "Hole", strokes, e, x.want)
	}
	// The table has its value at the effective length, which is less than the played one.
	c := single(260, "240", "200", rating.Site{Rise: "0", Wind: "0", Layup: "0", Roll: "20"})
	c.Levels[0].Strokes = []api.Point{{X: "200", Y: "3"}, {X: "300", Y: "4"}}
	strokes, e := rating.Hole(c, 0, 0, 0)
	gives(t, "Hole", strokes, e, "17/5")
}

func TestP3_2LargeHoles(t *testing.T) {
	l := parts()
	var weights []rating.Weight
	var obstacles []rating.Obstacle
	for i, strokes := range l {
		weights = append(weights, rating.Weight{Kind: kinds[i], Strokes: strokes})
		obstacles = append(obstacles, rating.Obstacle{Kind: kinds[i], Value: 10})
	}
	c := obstructed(weights, obstacles...)
	over, e := rating.Obstacles(c, 0, 0)
	gives(t, "parts with the sum 2", over, e, "2")
	strokes, e := rating.Hole(c, 0, 0, 0)
	gives(t, "parts with the sum 2", strokes, e, "6")
	c = obstructed(weights, obstacles[:2]...)
	over, e = rating.Obstacles(c, 0, 0)
	fails(t, "a long sum", over, e, api.ErrLarge)
	strokes, e = rating.Hole(c, 0, 0, 0)
	fails(t, "a long sum", strokes, e, api.ErrLarge)
	c = obstructed(weights, obstacles[2])
	over, e = rating.Obstacles(c, 0, 0)
	gives(t, "one part", over, e, l[2])
	c.Levels[0].Strokes[0].Y = l[0]
	strokes, e = rating.Hole(c, 0, 0, 0)
	gives(t, "one part and what it lacks", strokes, e, "1")
	c.Levels[0].Strokes[0].Y = most
	strokes, e = rating.Hole(c, 0, 0, 0)
	fails(t, "a great rating with a part", strokes, e, api.ErrLarge)
	c.Sites[0].Obstacles = nil
	strokes, e = rating.Hole(c, 0, 0, 0)
	gives(t, "a great rating", strokes, e, most)
	c.Levels[0].Strokes[0].Y = "-" + most
	strokes, e = rating.Hole(c, 0, 0, 0)
	gives(t, "a rating below 0", strokes, e, "-"+most)
}

func TestP3_2FollowsTheDefinitions(t *testing.T) {
	random := rand.New(rand.NewSource(2))
	for i := range 600 {
		c := randomCourse(random, []int{1, 2, 4, 60}[i%4])
		q := randomQuestion(random, c)
		over, e := rating.Obstacles(c, q.hole, q.level)
		result(t, "Obstacles", over, e, slow{c}.obstacles(q.hole, q.level))
		strokes, e := rating.Hole(c, q.tee, q.hole, q.level)
		result(t, "Hole", strokes, e, slow{c}.hole(q.tee, q.hole, q.level))
	}
}
