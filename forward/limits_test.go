package forward

import (
	"testing"

	"cardnet/api"
)

func TestP20_1P20_2Limits(t *testing.T) {
	for _, retry := range []int{1, 100000} {
		q, e := New(retry)
		if e != api.OK || q.Put(api.MaxTime, "last", "") != api.OK || q.Put(0, "a", "") != api.OK {
			t.Fatal(retry, e)
		}
		polls(t, q, 0, "a1 ")
		polls(t, q, retry-1, "")
		polls(t, q, retry, "a2 ")
		if q.Ack("a") != api.OK || q.Hold("last", api.MaxTime) != api.OK {
			t.Error(retry)
		}
		polls(t, q, api.MaxTime, "last1 ")
	}
}
