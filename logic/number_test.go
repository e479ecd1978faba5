package logic_test

import (
	"math"
	"math/big"
	"slices"
	"testing"

	"lattice/api"
	"lattice/logic"
	"lattice/value"
)

const (
	most  = math.MaxInt64
	least = math.MinInt64
)

// numbers are those at which a product, a sum or a quotient comes to an edge.
func numbers() []int64 {
	out := []int64{0, 1, 2, 3, 5, 7, 10, 46341, 3037000499, 3037000500, 6074000999, 3074457345618258603, 6148914691236517205, 1 << 33, 1<<33 + 1}
	for _, shift := range []int{15, 16, 30, 31, 32, 33, 61, 62} {
		out = append(out, 1<<shift-1, 1<<shift, 1<<shift+1)
	}
	for _, x := range out {
		out = append(out, -x)
	}
	return append(out, most, most-1, -most, 1-most, least)
}

// exact is what a number of any width answers as 64 bits.
func exact(x *big.Int) (int64, api.Errno) {
	if !x.IsInt64() {
		return 0, api.ErrWide
	}
	return x.Int64(), api.OK
}

// P2.3

func TestAddSubMulDivModAreExact(t *testing.T) {
	type call struct {
		name string
		f    func(a, b int64) (int64, api.Errno)
		big  func(z, a, b *big.Int) *big.Int
	}
	for _, c := range []call{
		{"add", logic.Add, (*big.Int).Add}, {"sub", logic.Sub, (*big.Int).Sub}, {"mul", logic.Mul, (*big.Int).Mul},
		{"div", logic.Div, (*big.Int).Quo}, {"mod", logic.Mod, (*big.Int).Rem},
	} {
		for _, a := range numbers() {
			for _, b := range numbers() {
				want, wantE := int64(0), api.ErrZero
				if b != 0 || c.name != "div" && c.name != "mod" {
					want, wantE = exact(c.big(new(big.Int), big.NewInt(a), big.NewInt(b)))
				}
				if got, e := c.f(a, b); got != want || e != wantE {
					t.Error(c.name, a, b, got, e)
				}
			}
		}
	}
}

func TestNumbersOfTheExamples(t *testing.T) {
	for i, x := range []struct {
		f    func(a, b int64) (int64, api.Errno)
		a, b int64
		want int64
		e    api.Errno
	}{
		{logic.Add, most, 1, 0, api.ErrWide}, {logic.Add, most, 0, most, api.OK}, {logic.Add, least, -1, 0, api.ErrWide}, {logic.Add, most, least, -1, api.OK},
		{logic.Sub, least, 1, 0, api.ErrWide}, {logic.Sub, 0, least, 0, api.ErrWide}, {logic.Sub, -1, least, most, api.OK}, {logic.Sub, least, least, 0, api.OK},
		{logic.Mul, 1 << 32, 1 << 31, 0, api.ErrWide}, {logic.Mul, -1 << 32, 1 << 31, least, api.OK}, {logic.Mul, 1 << 31, -1 << 32, least, api.OK},
		{logic.Mul, least, -1, 0, api.ErrWide}, {logic.Mul, least, 1, least, api.OK}, {logic.Mul, least, least, 0, api.ErrWide}, {logic.Mul, most, 2, 0, api.ErrWide},
		{logic.Div, least, -1, 0, api.ErrWide}, {logic.Div, least, 1, least, api.OK}, {logic.Div, -7, 2, -3, api.OK}, {logic.Div, 7, -2, -3, api.OK},
		{logic.Div, 1, 0, 0, api.ErrZero}, {logic.Div, 0, 0, 0, api.ErrZero}, {logic.Div, least, 0, 0, api.ErrZero},
		{logic.Mod, least, -1, 0, api.OK}, {logic.Mod, -7, 2, -1, api.OK}, {logic.Mod, 7, -2, 1, api.OK}, {logic.Mod, 1, 0, 0, api.ErrZero}, {logic.Mod, least, 0, 0, api.ErrZero},
	} {
		if got, e := x.f(x.a, x.b); got != x.want || e != x.e {
			t.Error(i, got, e)
		}
	}
}

func TestNegAbs(t *testing.T) {
	for _, a := range numbers() {
		want, wantE := exact(new(big.Int).Neg(big.NewInt(a)))
		if got, e := logic.Neg(a); got != want || e != wantE {
			t.Error("neg", a, got, e)
		}
		want, wantE = exact(new(big.Int).Abs(big.NewInt(a)))
		if got, e := logic.Abs(a); got != want || e != wantE {
			t.Error("abs", a, got, e)
		}
	}
}

// P2.4

func TestSum(t *testing.T) {
	many := func(n int, x int64) []int64 { return slices.Repeat([]int64{x}, n) }
	for i, x := range []struct {
		l    []int64
		want int64
		e    api.Errno
	}{
		{nil, 0, api.OK}, {[]int64{}, 0, api.OK}, {[]int64{7}, 7, api.OK}, {[]int64{1, 2, 3}, 6, api.OK}, {[]int64{-1, 1}, 0, api.OK}, {[]int64{-1, -2}, -3, api.OK},
		{[]int64{most}, most, api.OK}, {[]int64{least}, least, api.OK}, {[]int64{most, 1, -1}, most, api.OK}, {[]int64{1, most, -1}, most, api.OK},
		{[]int64{most, 1}, 0, api.ErrWide}, {[]int64{least, -1}, 0, api.ErrWide}, {[]int64{least, -1, 1}, least, api.OK}, {[]int64{least, -1, 2}, least + 1, api.OK},
		{[]int64{most, most, least, least}, -2, api.OK}, {[]int64{least, least, most, most, 2}, 0, api.OK}, {[]int64{most, most}, 0, api.ErrWide}, {[]int64{least, least}, 0, api.ErrWide},
		{append(many(10000, most), many(10000, least)...), -10000, api.OK}, {append(many(10000, least), many(10000, most)...), -10000, api.OK},
		{many(1<<16, most), 0, api.ErrWide}, {many(1<<16, least), 0, api.ErrWide}, {many(4, 1<<61), 0, api.ErrWide}, {many(4, -1<<61), least, api.OK},
		{many(3, math.MaxUint32), 3 * math.MaxUint32, api.OK},
	} {
		if got, e := logic.Sum(x.l...); got != x.want || e != x.e {
			t.Error(i, got, e)
		}
	}
}

// P2.5

func TestRange(t *testing.T) {
	for i, x := range []struct {
		from, to, step int64
		want           []int64
	}{
		{1, 5, 2, []int64{1, 3, 5}}, {1, 6, 2, []int64{1, 3, 5}}, {5, 1, -2, []int64{5, 3, 1}}, {5, 0, -2, []int64{5, 3, 1}},
		{1, 0, 1, nil}, {0, 1, -1, nil}, {3, 3, 1, []int64{3}}, {3, 3, -1, []int64{3}}, {3, 4, 9, []int64{3}}, {-1, 1, 1, []int64{-1, 0, 1}},
		{most - 1, most, 5, []int64{most - 1}}, {most - 1, most, 1, []int64{most - 1, most}}, {most, most, 1, []int64{most}}, {most, least, 1, nil},
		{least + 1, least, -5, []int64{least + 1}}, {least + 1, least, -1, []int64{least + 1, least}}, {least, least, -1, []int64{least}}, {least, most, -1, nil},
		{least, most, most, []int64{least, -1, most - 1}}, {most, least, least, []int64{most, -1}}, {least, least, least, []int64{least}}, {most, least, -most, []int64{most, 0, -most}},
	} {
		l, e := logic.Range(x.from, x.to, x.step)
		if !slices.Equal(l, x.want) || e != api.OK {
			t.Error(i, l, e)
		}
	}
}

func TestRangeAtItsBound(t *testing.T) {
	for i, x := range []struct {
		from, to, step int64
		many           int
		e              api.Errno
	}{
		{1, api.MaxRows, 1, api.MaxRows, api.OK}, {0, api.MaxRows, 1, 0, api.ErrLong}, {api.MaxRows, 1, -1, api.MaxRows, api.OK}, {api.MaxRows, 0, -1, 0, api.ErrLong},
		{0, 3*api.MaxRows - 1, 3, api.MaxRows, api.OK}, {0, 3 * api.MaxRows, 3, 0, api.ErrLong}, {most - api.MaxRows + 1, most, 1, api.MaxRows, api.OK}, {most - api.MaxRows, most, 1, 0, api.ErrLong},
		{least, least + api.MaxRows - 1, 1, api.MaxRows, api.OK}, {least + api.MaxRows - 1, least, -1, api.MaxRows, api.OK}, {least + api.MaxRows, least, -1, 0, api.ErrLong},
		{least, most, 1, 0, api.ErrLong}, {most, least, -1, 0, api.ErrLong}, {least, most, 1 << 48, api.MaxRows, api.OK}, {least, most, 1<<48 - 1, 0, api.ErrLong},
		{1, 2, 0, 0, api.ErrArg}, {2, 1, 0, 0, api.ErrArg}, {1, 1, 0, 0, api.ErrArg}, {least, most, 0, 0, api.ErrArg},
	} {
		l, e := logic.Range(x.from, x.to, x.step)
		if len(l) != x.many || e != x.e || e != api.OK && l != nil {
			t.Error(i, len(l), e)
		}
	}
}

// P2.7

func TestSubUndoesAdd(t *testing.T) {
	for _, a := range numbers() {
		for _, b := range numbers() {
			if sum, e := logic.Add(a, b); e == api.OK {
				if back, e := logic.Sub(sum, b); e != api.OK || back != a {
					t.Error(a, b, back, e)
				}
			}
		}
	}
}

func TestQuotientAndRest(t *testing.T) {
	for _, a := range numbers() {
		for _, b := range numbers() {
			q, e := logic.Div(a, b)
			if e != api.OK {
				continue
			}
			rest, _ := logic.Mod(a, b)
			whole, e := logic.Mul(b, q)
			back, again := logic.Add(whole, rest)
			if e != api.OK || again != api.OK || back != a {
				t.Error(a, b, q, rest)
			}
			if big.NewInt(rest).CmpAbs(big.NewInt(b)) >= 0 {
				t.Error("rest", a, b, rest)
			}
		}
	}
}

func TestSumDoesNotHangOnOrder(t *testing.T) {
	l := []int64{most, least, most, 1, -1, 5, least, 1 << 62, most, -7}
	want, wantE := logic.Sum(l...)
	for i := range l {
		for k := range l {
			o := slices.Clone(l)
			o[i], o[k] = o[k], o[i]
			back := slices.Clone(o)
			slices.Reverse(back)
			for _, x := range [][]int64{o, back} {
				if got, e := logic.Sum(x...); got != want || e != wantE {
					t.Error(i, k, got, e)
				}
			}
		}
	}
}

func TestRangeIsEvenAndHoldsItsNumbers(t *testing.T) {
	for _, x := range [][3]int64{{1, 50, 7}, {50, 1, -7}, {least, most, most / 3}, {most, least, least / 5}, {-3, 3, 1}} {
		l, e := logic.Range(x[0], x[1], x[2])
		if e != api.OK || len(l) == 0 || l[0] != x[0] {
			t.Fatal(x, l, e)
		}
		var values []api.Value
		for _, number := range l {
			values = append(values, value.Int(number))
		}
		for i, v := range values {
			if logic.In(v, values...) != y {
				t.Error("in", x, i)
			}
			if i > 0 && l[i]-l[i-1] != x[2] {
				t.Error("apart", x, i)
			}
		}
		if next, e := logic.Add(l[len(l)-1], x[2]); e == api.OK && (x[2] > 0 && next <= x[1] || x[2] < 0 && next >= x[1]) {
			t.Error("last", x, l)
		}
	}
}
