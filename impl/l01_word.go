package impl

import "strconv"

const OpAdd = 1
const OpLess = 2
const OpTimes = 3
const OpBy = 4
const OpBelow = 5
const OpSame = 6
const OpBoth = 7

// word is an int32 because the wraparound that the operations need is then the language's own.
type word int32

func (w word) plus(other word) word { return w + other }

func (w word) minus(other word) word { return w - other }

func (w word) times(other word) word { return w * other }

// over must not be called with 0. The least word over -1 wraps to itself and does not panic.
func (w word) over(other word) word { return w / other }

func (w word) below(other word) bool { return w < other }

func (w word) same(other word) bool { return w == other }

func (w word) both(other word) bool { return w != 0 && other != 0 }

// arithmetic returns nil if op yields a truth value or is no operation.
func arithmetic(op int64) func(word, word) word {
	switch op {
	case OpAdd:
		return word.plus
	case OpLess:
		return word.minus
	case OpTimes:
		return word.times
	case OpBy:
		return word.over
	}
	return nil
}

// test returns nil if op does not yield a truth value.
func (w word) test(op int64) func(word) bool {
	switch op {
	case OpBelow:
		return w.below
	case OpSame:
		return w.same
	case OpBoth:
		return w.both
	}
	return nil
}

func truth(holds bool) int64 {
	if holds {
		return 1
	}
	return 0
}

func WordOk(n int64) bool { return Wrap(n) == n }

func Wrap(n int64) int64 { return int64(word(n)) }

func Did(op int64, a int64, b int64) (int64, bool) {
	if !WordOk(a) || !WordOk(b) || op == OpBy && b == 0 {
		return 0, false
	}
	left, right := word(a), word(b)
	if compute := arithmetic(op); compute != nil {
		return int64(compute(left, right)), true
	}
	if holds := left.test(op); holds != nil {
		return truth(holds(right)), true
	}
	return 0, false
}

func ReadWord(s string) (int64, bool) {
	n, err := strconv.ParseInt(s, 10, 32)
	// ParseInt also takes leading zeros, "+" and "-0", none of which is written back.
	if err != nil || strconv.FormatInt(n, 10) != s {
		return 0, false
	}
	return n, true
}
