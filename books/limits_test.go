package books

import (
	"testing"

	"cardnet/api"
	"cardnet/disk"
)

func TestP50_9Limits(t *testing.T) {
	d, _ := disk.New(1000)
	k := keeper(t, d)
	if e := k.Do([]Op{approve(0, "a", 1)}); e != api.OK {
		t.Error(e)
	}
	var raises []Op
	for range 17 {
		raises = append(raises, Op{Kind: 2, At: 1, Auth: "a", Amount: 1})
	}
	if e := k.Do(raises); e != api.ErrRange {
		t.Error(e)
	}
	if e := k.Do(raises[:16]); e != api.OK || k.Count() != 17 {
		t.Error(e)
	}
	if s, e := Encode(moving(6, 1234567890, "r", -1234567890, 0)); s != "6|1234567890|r||homebank|shopbank|-1234567890|0|0" || e != api.OK {
		t.Error(s, e)
	}
}
