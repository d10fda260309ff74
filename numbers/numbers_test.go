package numbers_test

import (
	"testing"

	"daybook/numbers"
)

func TestAppend(t *testing.T) {
	for _, c := range []struct {
		n    uint64
		size int
		want string
	}{
		{0, 0, ""},
		{0, 1, "\x00"},
		{255, 1, "\xff"},
		{256, 1, "\x00"},
		{258, 2, "\x01\x02"},
		{258, 4, "\x00\x00\x01\x02"},
		{1<<64 - 2, 8, "\xff\xff\xff\xff\xff\xff\xff\xfe"},
	} {
		if got := string(numbers.Append([]byte("ahead"), c.n, c.size)); got != "ahead"+c.want {
			t.Errorf("%d in %d bytes: %q, want %q", c.n, c.size, got, "ahead"+c.want)
		}
	}
}

func TestReadGivesBack(t *testing.T) {
	for _, n := range []uint64{0, 1, 255, 256, 65535, 1 << 31, 1<<63 + 5, 1<<64 - 1} {
		if got := numbers.Read(string(numbers.Append(nil, n, 8))); got != n {
			t.Errorf("%d came back as %d", n, got)
		}
	}
	if got := numbers.Read("\x01\x02\x03"); got != 66051 {
		t.Errorf("1 2 3 is %d, want 66051", got)
	}
	if got := numbers.Read(""); got != 0 {
		t.Errorf("no bytes are %d, want 0", got)
	}
}
