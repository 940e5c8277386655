package card_test

import (
	"math/big"
	"math/rand"
	"testing"

	"niblick/api"
	"niblick/card"
)

type matrix = [][]api.Rat

// unit returns the matrix with 1 on its diagonal.
func unit(n int) matrix {
	m := make(matrix, n)
	for i := range m {
		m[i] = zeros(n)
		m[i][i] = "1"
	}
	return m
}

func zeros(n int) []api.Rat {
	l := make([]api.Rat, n)
	for i := range l {
		l[i] = "0"
	}
	return l
}

func TestP1_5Solve(t *testing.T) {
	for _, x := range []struct {
		name string
		m    matrix
		b    []api.Rat
		want []api.Rat
	}{
		{"the example", matrix{{"1", "1"}, {"1", "-1"}}, []api.Rat{"3", "1"}, []api.Rat{"2", "1"}},
		{"one unknown", matrix{{"-2/3"}}, []api.Rat{"4/5"}, []api.Rat{"-6/5"}},
		{"rows that have to be changed", matrix{{"0", "2"}, {"3", "0"}}, []api.Rat{"1", "1"}, []api.Rat{"1/3", "1/2"}},
		{"a pivot in the last row", matrix{{"0", "0", "1"}, {"0", "1", "1"}, {"1", "1", "1"}}, []api.Rat{"1", "3", "6"}, []api.Rat{"3", "2", "1"}},
		{"a pivot that becomes 0", matrix{{"1", "2", "3"}, {"2", "4", "1"}, {"1", "0", "1"}}, []api.Rat{"6", "7", "2"}, []api.Rat{"1", "1", "1"}},
		{"the solution 0", matrix{{"1/2", "1/3"}, {"1/4", "1/5"}}, []api.Rat{"0", "0"}, []api.Rat{"0", "0"}},
		{"two rows that agree", matrix{{"1"}, {"2"}}, []api.Rat{"3", "6"}, []api.Rat{"3"}},
		{"three rows that agree", matrix{{"1", "1"}, {"2", "-1"}, {"3", "0"}}, []api.Rat{"3", "0", "3"}, []api.Rat{"1", "2"}},
		{"a row of zeros first", matrix{{"0", "0"}, {"2", "-1"}, {"1", "1"}}, []api.Rat{"0", "0", "3"}, []api.Rat{"1", "2"}},
		{"fractions", matrix{{"1/2", "-1/3", "1/7"}, {"5/6", "1", "-2/5"}, {"-1/9", "3/4", "8"}}, []api.Rat{"13/42", "43/30", "311/36"}, []api.Rat{"1", "1", "1"}},
	} {
		l, e := card.Solve(x.m, x.b)
		gives(t, x.name, l, e, x.want)
	}
}

func TestP1_5Singular(t *testing.T) {
	for _, x := range []struct {
		name string
		m    matrix
		b    []api.Rat
	}{
		{"many solutions", matrix{{"1", "1"}, {"2", "2"}}, []api.Rat{"3", "6"}},
		{"no solution", matrix{{"1", "1"}, {"2", "2"}}, []api.Rat{"3", "7"}},
		{"two rows that contradict", matrix{{"1"}, {"2"}}, []api.Rat{"3", "5"}},
		{"a third row that contradicts", matrix{{"1", "1"}, {"1", "-1"}, {"1", "0"}}, []api.Rat{"3", "1", "3"}},
		{"zeros", matrix{{"0"}}, []api.Rat{"0"}},
		{"zeros that contradict", matrix{{"0"}}, []api.Rat{"1"}},
		{"a row of zeros that contradicts", matrix{{"1"}, {"0"}}, []api.Rat{"1", "1"}},
		{"fewer rows than unknowns", matrix{{"1", "2"}}, []api.Rat{"1"}},
		{"a column of zeros", matrix{{"1", "0"}, {"2", "0"}, {"3", "0"}}, []api.Rat{"1", "2", "3"}},
		{"three rows of rank 2", matrix{{"1", "2", "3"}, {"4", "5", "6"}, {"7", "8", "9"}}, []api.Rat{"6", "15", "24"}},
		{"64 rows of rank 63", append(unit(64)[:63], zeros(64)), zeros(64)},
		{"without columns", matrix{{}, {}}, []api.Rat{"0", "1"}},
		{"one row without columns", matrix{nil}, []api.Rat{"-1/2"}},
	} {
		l, e := card.Solve(x.m, x.b)
		fails(t, x.name, l, e, api.ErrSingular)
	}
}

func TestP1_5EmptySolutions(t *testing.T) {
	for _, x := range []struct {
		name string
		m    matrix
		b    []api.Rat
	}{
		{"nothing", nil, nil},
		{"no rows", matrix{}, []api.Rat{}},
		{"no columns", matrix{{}, nil}, []api.Rat{"0", "0"}},
		{"64 rows without columns", make(matrix, 64), zeros(64)},
	} {
		l, e := card.Solve(x.m, x.b)
		if e != api.OK || len(l) != 0 {
			t.Errorf("%s: got %v and the error %d, want the empty solution", x.name, l, e)
		}
	}
}

func TestP1_5Errors(t *testing.T) {
	large := api.Rat(long("9", 601))
	for _, x := range []struct {
		name string
		m    matrix
		b    []api.Rat
		want api.Errno
	}{
		{"65 rows", make(matrix, 65), nil, api.ErrMany},
		{"65 rows before an error in one", append(matrix{{"a"}}, make(matrix, 64)...), nil, api.ErrMany},
		{"65 columns", matrix{zeros(65)}, []api.Rat{"0"}, api.ErrMany},
		{"65 columns before a number", matrix{append([]api.Rat{"a"}, zeros(64)...)}, []api.Rat{"0"}, api.ErrMany},
		{"65 columns before the shape", matrix{{"1"}, zeros(65)}, []api.Rat{"0", "0"}, api.ErrMany},
		{"the shape of an earlier row", matrix{{"1"}, {"1", "2"}, zeros(65)}, nil, api.ErrShape},
		{"a short row", matrix{{"1", "1"}, {"2"}}, []api.Rat{"3", "6"}, api.ErrShape},
		{"a long row", matrix{{"1"}, {"2", "1"}}, []api.Rat{"3", "6"}, api.ErrShape},
		{"a row behind an empty one", matrix{{}, {"2"}}, []api.Rat{"3", "6"}, api.ErrShape},
		{"the shape before a number", matrix{{"1"}, {"a", "1"}}, []api.Rat{"3", "6"}, api.ErrShape},
		{"a number before a later shape", matrix{{"1", "2/4"}, {"a"}}, []api.Rat{"3"}, api.ErrForm},
		{"a large number", matrix{{"1", large}, {"a", "1"}}, nil, api.ErrLarge},
		{"the first number of two", matrix{{"1", "1"}, {large, "a"}}, nil, api.ErrLarge},
		{"b too short", matrix{{"1", "1"}, {"1", "1"}}, []api.Rat{"1"}, api.ErrShape},
		{"b too long", matrix{{"1"}}, []api.Rat{"1", "a"}, api.ErrShape},
		{"b without rows", nil, []api.Rat{"0"}, api.ErrShape},
		{"a number before b", matrix{{"a"}}, nil, api.ErrForm},
		{"a number of b", matrix{{"1"}, {"1"}}, []api.Rat{large, ""}, api.ErrLarge},
		{"a number of b before singular", matrix{{"1"}, {"1"}}, []api.Rat{"0", "3/1"}, api.ErrForm},
		{"a number of b without columns", matrix{{}}, []api.Rat{"00"}, api.ErrForm},
	} {
		l, e := card.Solve(x.m, x.b)
		fails(t, x.name, l, e, x.want)
	}
}

func TestP1_5Limits(t *testing.T) {
	b := make([]api.Rat, 64)
	for i := range b {
		b[i], _ = card.Of(i-5, i+1)
	}
	l, e := card.Solve(unit(64), b)
	gives(t, "64 rows", l, e, b)
	most := api.Rat(long("9", 600))
	l, e = card.Solve(matrix{{"1/" + most}}, []api.Rat{"1"})
	gives(t, "600 digits", l, e, []api.Rat{most})
	l, e = card.Solve(matrix{{"1/" + most}}, []api.Rat{"2"})
	fails(t, "601 digits", l, e, api.ErrLarge)
	l, e = card.Solve(matrix{{"1", "0"}, {"0", "2"}}, []api.Rat{"1", "1/" + most})
	fails(t, "601 digits below", l, e, api.ErrLarge)
	l, e = card.Solve(matrix{{"1", "-" + most}, {"0", "1"}}, []api.Rat{"0", most})
	fails(t, "the first unknown is too large", l, e, api.ErrLarge)
	l, e = card.Solve(matrix{{"1", "-" + most, "0"}, {"0", "1", "0"}, {"0", "0", "0"}}, []api.Rat{"0", most, "1"})
	fails(t, "singular before large", l, e, api.ErrSingular)
}

// TestP1_5LargeOnTheWay has a determinant of thousands of digits, and a short solution.
func TestP1_5LargeOnTheWay(t *testing.T) {
	random := rand.New(rand.NewSource(9))
	for _, n := range []int{2, 3, 6} {
		m, b, want := randomSystem(random, n, n, 590)
		l, e := card.Solve(m, b)
		gives(t, "solution", l, e, want)
	}
}

// randomSystem returns integer equations and their solution, some small fractions; there may be more rows than unknowns.
func randomSystem(random *rand.Rand, rows, n, digits int) (matrix, []api.Rat, []api.Rat) {
	x := make([]*big.Rat, n)
	solution := make([]api.Rat, n)
	for i := range x {
		x[i] = randomRat(random, 1)
		solution[i] = rat(x[i])
	}
	m, b := make(matrix, rows), make([]api.Rat, rows)
	for i := range m {
		sum := new(big.Rat)
		for j := range n {
			a := new(big.Rat).SetInt(randomInt(random, digits))
			m[i] = append(m[i], rat(a))
			sum.Add(sum, a.Mul(a, x[j]))
		}
		b[i] = rat(sum)
	}
	return m, b, solution
}

func TestP1_5RandomSystems(t *testing.T) {
	random := rand.New(rand.NewSource(10))
	for range 300 {
		n := 1 + random.Intn(6)
		m, b, want := randomSystem(random, n+random.Intn(3), n, 3)
		l, e := card.Solve(m, b)
		if e == api.ErrSingular && rank(t, m) < n {
			continue
		}
		gives(t, "solution", l, e, want)
	}
	m, b, want := randomSystem(random, 64, 64, 2)
	l, e := card.Solve(m, b)
	gives(t, "64 rows", l, e, want)
}

// TestP1_5Fractions compares regular, singular and contradictory equations of small fractions with their ranks.
func TestP1_5Fractions(t *testing.T) {
	random := rand.New(rand.NewSource(11))
	for range 2000 {
		rows, n := 1+random.Intn(4), 1+random.Intn(3)
		m, b := make(matrix, rows), make([]api.Rat, rows)
		both := make(matrix, rows)
		for i := range m {
			for range n {
				m[i] = append(m[i], rat(big.NewRat(int64(random.Intn(5)-2), int64(1+random.Intn(3)))))
			}
			b[i] = rat(big.NewRat(int64(random.Intn(5)-2), int64(1+random.Intn(3))))
			both[i] = append(append([]api.Rat{}, m[i]...), b[i])
		}
		l, e := card.Solve(m, b)
		if rank(t, m) < n || rank(t, both) > n {
			fails(t, "singular", l, e, api.ErrSingular)
			continue
		}
		is(t, "error", e, api.OK)
		for i, row := range m {
			sum := new(big.Rat)
			for j, a := range row {
				sum.Add(sum, new(big.Rat).Mul(bigRat(t, a), bigRat(t, l[j])))
			}
			is(t, "row", rat(sum), b[i])
		}
	}
}

// rank returns the rank of a matrix.
func rank(t *testing.T, m matrix) int {
	t.Helper()
	rows := make([][]*big.Rat, len(m))
	for i, row := range m {
		for _, a := range row {
			rows[i] = append(rows[i], bigRat(t, a))
		}
	}
	done := 0
	for c := range m[0] {
		pivot := done
		for pivot < len(rows) && rows[pivot][c].Sign() == 0 {
			pivot++
		}
		if pivot == len(rows) {
			continue
		}
		rows[done], rows[pivot] = rows[pivot], rows[done]
		for _, row := range rows[done+1:] {
			factor := new(big.Rat).Quo(row[c], rows[done][c])
			for j := range row {
				row[j] = new(big.Rat).Sub(row[j], new(big.Rat).Mul(factor, rows[done][j]))
			}
		}
		done++
	}
	return done
}
