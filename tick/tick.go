// Package tick is layer 1: ticks, and how they add up without ever going round. See shared/doc/01-tick.md.
package tick

import (
	"cmp"
	"strconv"

	"timetable/api"
)

const never = "inf"

// headLen is one digit more than MaxTick has: a head of so many digits is above it, and can still be read as an int64.
const headLen = 14

// Check tells whether t is from 0 to MaxTick.
func Check(t int64) api.Errno {
	if t < 0 || t > api.MaxTick {
		return api.ErrRange
	}
	return api.OK
}

// Is tells whether t is a tick: from 0 to MaxTick, or Inf.
func Is(t int64) bool {
	return t == api.Inf || Check(t) == api.OK
}

// Add adds two ticks; Inf and any tick is Inf.
func Add(a, b int64) (int64, api.Errno) {
	if !Is(a) || !Is(b) {
		return 0, api.ErrRange
	}
	if a == api.Inf || b == api.Inf {
		return api.Inf, api.OK
	}
	return fit(a, api.MaxTick-b, above[int64], func(x int64) int64 { return x + b })
}

// Sub takes b from a; Inf less any other tick is Inf.
func Sub(a, b int64) (int64, api.Errno) {
	if !Is(a) || !Is(b) || b == api.Inf {
		return 0, api.ErrRange
	}
	if a == api.Inf {
		return api.Inf, api.OK
	}
	return fit(b, a, above[int64], func(x int64) int64 { return a - x })
}

// Mul tells n times a; no times Inf is 0.
func Mul(a, n int64) (int64, api.Errno) {
	if !Is(a) || n < 0 {
		return 0, api.ErrRange
	}
	if a == 0 || n == 0 {
		return 0, api.OK
	}
	if a == api.Inf {
		return api.Inf, api.OK
	}
	return fit(n, api.MaxTick/a, above[int64], func(x int64) int64 { return a * x })
}

// At tells the tick i of the row that begins at from and goes on every so many (0: from alone).
func At(from, every, i int64) (int64, api.Errno) {
	if Check(from) != api.OK || Check(every) != api.OK || i < 0 {
		return 0, api.ErrRange
	}
	if every == 0 {
		return fit(i, 0, above[int64], func(int64) int64 { return from })
	}
	return fit(i, (api.MaxTick-from)/every, above[int64], func(x int64) int64 { return from + every*x })
}

// Count tells how many ticks of a row are at most until.
func Count(from, every, until int64) int64 {
	if Check(from) != api.OK || Check(every) != api.OK || Check(until) != api.OK {
		return 0
	}
	if from > until {
		return 0
	}
	if every == 0 {
		return 1
	}
	return (until-from)/every + 1
}

// Text tells a tick's decimal digits, or inf; nothing of what is no tick.
func Text(t int64) string {
	if !Is(t) {
		return ""
	}
	if t == api.Inf {
		return never
	}
	return string(strconv.AppendInt(nil, t, 10))
}

// Parse reads what Text writes.
func Parse(s string) (int64, api.Errno) {
	if s == never {
		return api.Inf, api.OK
	}
	cut := min(len(s), headLen)
	n, ok := number(s[:cut])
	if !ok || !digits(s[cut:]) {
		return 0, api.ErrText
	}
	return fit(n, api.MaxTick, above[int64], func(x int64) int64 { return x })
}

// fit tells what made makes of part, unless part is too much for the room there is. The comparison comes ahead of what is made, so that no number goes round.
func fit[T any](part, room T, tooMuch func(part, room T) bool, made func(part T) T) (T, api.Errno) {
	if tooMuch(part, room) {
		var none T
		return none, api.ErrRange
	}
	return made(part), api.OK
}

func above[T cmp.Ordered](a, b T) bool {
	return a > b
}

// number reads a head of decimal digits. A needless 0 or a plus ahead does not come back when the number is written again.
func number(head string) (int64, bool) {
	n, err := strconv.ParseInt(head, 10, 64)
	if err != nil || n < 0 {
		return 0, false
	}
	return n, string(strconv.AppendInt(nil, n, 10)) == head
}

func digits(s string) bool {
	for i := range len(s) {
		if s[i] < '0' || s[i] > '9' {
			return false
		}
	}
	return true
}
