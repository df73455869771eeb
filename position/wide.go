package position

const (
	half = 1 << 32
	most = 1 << 62
)

// wide is a sum of many numbers of 64 bits, exactly: high * 2^32 + low.
type wide struct{ high, low int64 }

func (w wide) plus(n int64) wide {
	return wide{high: w.high + n>>32, low: w.low + n&(half-1)}
}

// saturated returns the sum; 2^62 or -2^62 if it is beyond them.
func (w wide) saturated() int64 {
	high, low := w.high+w.low>>32, w.low&(half-1)
	if high >= most/half {
		return most
	}
	if high < -most/half {
		return -most
	}
	return high*half + low
}
