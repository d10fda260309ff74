package area_test

import (
	"math"
	"testing"

	"daybook/api"
	"daybook/area"
	"daybook/disk"
)

func TestOn(t *testing.T) {
	d := disk.New(10)
	for _, c := range [][2]int{{0, 4}, {0, 10}, {6, 4}, {3, 7}} {
		a, err := area.On(d, c[0], c[1], 4)
		if err != nil || a.First != c[0] || a.Sectors != c[1] {
			t.Errorf("On(%d, %d) = %v, %v", c[0], c[1], a, err)
		}
	}
	for _, c := range [][2]int{
		{0, 3}, {0, 0}, {0, -1}, {0, 11}, {7, 4}, {10, 4}, {-1, 4}, {-1, 11},
		{math.MaxInt, 4}, {0, math.MaxInt}, {math.MaxInt, math.MaxInt}, {1, math.MaxInt},
		{math.MinInt, 4}, {0, math.MinInt}, {math.MinInt, math.MaxInt}, {math.MaxInt, math.MinInt},
	} {
		if a, err := area.On(d, c[0], c[1], 4); err != api.ErrPlace || a != (area.Area{}) {
			t.Errorf("On(%d, %d) = %v, %v, want ErrPlace", c[0], c[1], a, err)
		}
	}
	if _, err := area.On(nil, 0, 4, 4); err != api.ErrPlace {
		t.Errorf("On no disk: %v, want ErrPlace", err)
	}
}

// fails tells whether the disk failed in this.
func fails(work func()) (failed bool) {
	defer func() { failed = area.Failed(recover()) }()
	work()
	return false
}

func TestSectorsAreItsOwn(t *testing.T) {
	d := disk.New(10)
	a, _ := area.On(d, 3, 5, 4)
	if fails(func() { a.Write(2, "here"); a.Sync() }) {
		t.Fatal("the disk failed")
	}
	if text, ok := d.Read(5); !ok || text[:4] != "here" {
		t.Errorf("sector 5 is %q, %v", text, ok)
	}
	if text, ok := a.Read(2); !ok || text[:4] != "here" {
		t.Errorf("sector 2 of the area is %q, %v", text, ok)
	}
	d.Crash(nil)
	if text, _ := a.Read(2); text[:4] != "here" {
		t.Error("Sync made nothing safe")
	}
}

func TestDeadDiskFails(t *testing.T) {
	d := disk.New(4)
	a, _ := area.On(d, 0, 4, 4)
	d.Die(0)
	for name, work := range map[string]func(){
		"Read":  func() { a.Read(0) },
		"Write": func() { a.Write(0, "") },
		"Sync":  func() { a.Sync() },
	} {
		if !fails(work) {
			t.Errorf("%s of a dead disk did not fail", name)
		}
	}
}

func TestBrokenSectorIsNoFailure(t *testing.T) {
	d := disk.New(4)
	a, _ := area.On(d, 0, 4, 4)
	a.Write(1, "x")
	d.Crash([]int{2})
	if fails(func() {
		if text, ok := a.Read(1); ok || text != "" {
			t.Errorf("a broken sector reads %q, %v", text, ok)
		}
	}) {
		t.Error("a broken sector was taken for a dead disk")
	}
}

func TestOtherPanicsGoOn(t *testing.T) {
	for _, p := range []any{"text", api.ErrFull, []int{1}, 3} {
		func() {
			defer func() {
				if recover() == nil {
					t.Errorf("a panic with %v was taken for a failure of the disk", p)
				}
			}()
			fails(func() { panic(p) })
		}()
	}
}
