// Package num is layer 1, numbers as texts: see shared/doc/01-num.md.
package num

import (
	"math"
	"strconv"
	"strings"

	"fescue/api"
)

// mostSmall is the greatest bound that Small takes.
const mostSmall = 1_000_000

// Read answers the number whose text s is; ErrNum, if s is no number's text.
func Read(s string) (int64, api.Errno) {
	below, size, e := parts(s)
	if below {
		return int64(-size), e // wraps round to the number, the smallest one as well
	}
	return int64(size), e
}

// Write answers the text of n.
func Write(n int64) string {
	return strconv.FormatInt(n, 10)
}

// Small answers the number from 0 to most whose text s is.
func Small(s string, most int) (int, api.Errno) {
	if most < 0 || most > mostSmall {
		return 0, api.ErrArg
	}
	n, e := Read(s)
	if e != api.OK || n < 0 || n > int64(most) {
		return 0, api.ErrNum
	}
	return int(n), api.OK
}

// parts tells of a number's text whether a sign is ahead of its digits, and how much these are.
func parts(s string) (below bool, size uint64, e api.Errno) {
	digits, below := strings.CutPrefix(s, "-")
	well := begins(digits, below)
	defer func() {
		if !well {
			below, size, e = false, 0, api.ErrNum
		}
	}()
	most := greatest(below)
walk:
	for _, c := range digits {
		switch {
		// Asked ahead of the sum, which might wrap round.
		case c < '0', c > '9', size > (most-uint64(c-'0'))/10:
			well = false
			break walk
		}
		size = size*10 + uint64(c-'0')
	}
	return below, size, api.OK
}

// begins tells whether digits may begin as they do: not with a 0, unless it is alone, without a sign.
func begins(digits string, below bool) bool {
	if digits == "" {
		return false
	}
	return digits[0] != '0' || digits == "0" && !below
}

// greatest answers how much the digits may be: one more where a sign is ahead of them.
func greatest(below bool) uint64 {
	if below {
		return math.MaxInt64 + 1
	}
	return math.MaxInt64
}
