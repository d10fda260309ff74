package payload_test

import (
	"strings"
	"testing"

	"daybook/api"
	"daybook/payload"
)

func TestIsName(t *testing.T) {
	for _, name := range []string{"a", "z", "az", "abcdefgh", "zzzzzzzz"} {
		if !payload.IsName(name) {
			t.Errorf("P14: %q is a name", name)
		}
	}
	for _, name := range []string{"", "A", "Z", "0", "_", " ", "`", "{", "\x00", "\xff", "ä", "a ", " a", "aB", "abcdefghi", strings.Repeat("a", 256), strings.Repeat("a", 257)} {
		if payload.IsName(name) {
			t.Errorf("P14: %q is no name", name)
		}
	}
	for c := range 256 {
		if got, want := payload.IsName("a"+string([]byte{byte(c)})), c >= 'a' && c <= 'z'; got != want {
			t.Errorf("P14: a name with the byte %d: %v", c, got)
		}
	}
}

func TestIsRight(t *testing.T) {
	for _, v := range []api.Value{num(0), num(-1), num(1 << 62), txt(""), txt("\x00\xff"), txt(strings.Repeat("x", 16))} {
		if !payload.IsRight(v) {
			t.Errorf("P15: %v is right", v)
		}
	}
	for _, v := range []api.Value{{}, {Type: 3}, {Type: -1}, {Type: api.Int, S: "x"}, {Type: api.Text, N: 1}, {Type: api.Text, N: -1, S: "x"}, txt(strings.Repeat("x", 17)), txt(strings.Repeat("x", 272)), {Type: 257}, {Type: 258}} {
		if payload.IsRight(v) {
			t.Errorf("P15: %v is not right", v)
		}
	}
}

func TestAreRight(t *testing.T) {
	all := []api.Column{{Name: "a", Type: api.Int}, {Name: "b", Type: api.Text}, {Name: "c", Type: api.Int}, {Name: "d", Type: api.Text}, {Name: "e", Type: api.Int}}
	for n := range len(all) + 1 {
		if got, want := payload.AreRight(all[:n]), n >= 1 && n <= 4; got != want {
			t.Errorf("P14: %d columns: %v", n, got)
		}
	}
	for i := range 4 {
		for _, c := range []api.Column{{Name: "", Type: 1}, {Name: "X", Type: 1}, {Name: "x", Type: 0}, {Name: "x", Type: 3}, {Name: all[(i+1)%4].Name, Type: 1}} {
			columns := append([]api.Column(nil), all[:4]...)
			columns[i] = c
			if payload.AreRight(columns) {
				t.Errorf("P14: %v are not right", columns)
			}
		}
	}
}
