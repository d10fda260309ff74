package payload_test

import (
	"math"
	"math/rand"
	"reflect"
	"strings"
	"testing"

	"daybook/api"
	"daybook/numbers"
	"daybook/payload"
	"daybook/sums"
)

func num(n int) api.Value { return api.Value{Type: api.Int, N: n} }

func txt(s string) api.Value { return api.Value{Type: api.Text, S: s} }

func texts(ops []payload.Op) []string {
	var list []string
	for _, o := range ops {
		list = append(list, o.Text())
	}
	return list
}

// examples are transactions with all that there can be.
func examples() []payload.Transaction {
	long := strings.Repeat("\xff", api.MaxText)
	four := []api.Column{{Name: "abcdefgh", Type: api.Text}, {Name: "b", Type: api.Int}, {Name: "zzzzzzzz", Type: api.Text}, {Name: "d", Type: api.Int}}
	row := []api.Value{txt(long), num(math.MinInt), txt(""), num(math.MaxInt)}
	return []payload.Transaction{
		{Time: 7, Ops: []payload.Op{{Kind: payload.Create, Table: "t", Columns: []api.Column{{Name: "k", Type: api.Int}, {Name: "v", Type: api.Text}}}, {Kind: payload.Insert, Table: "t", Row: []api.Value{num(5), txt("x")}}}},
		{Time: -1, Ops: []payload.Op{{Kind: payload.Create, Table: "abcdefgh", Columns: four}, {Kind: payload.Insert, Table: "abcdefgh", Row: row}, {Kind: payload.Update, Table: "abcdefgh", Row: row}, {Kind: payload.Delete, Table: "abcdefgh", Row: row[:1]}}},
		{Time: math.MinInt, Ops: []payload.Op{{Kind: payload.Delete, Table: "t", Row: []api.Value{num(-5)}}}},
		{Time: math.MaxInt, Ops: []payload.Op{{Kind: payload.Delete, Table: "t", Row: []api.Value{txt("")}}}},
	}
}

func TestParseGivesBack(t *testing.T) {
	for _, want := range examples() {
		text := payload.Text(want.Time, texts(want.Ops))
		if got, ok := payload.Parse(text); !ok || !reflect.DeepEqual(got, want) {
			t.Errorf("P18: %v came back as %v, %v", want, got, ok)
		}
		if n := payload.Length(len(strings.Join(texts(want.Ops), ""))); n != len(text) {
			t.Errorf("P18: the length of %q is told as %d", text, n)
		}
	}
}

func TestExample(t *testing.T) {
	x := examples()[0]
	want := "\x00\x00\x00\x00\x00\x00\x00\x07\x02\x01\x01t\x02\x01k\x01\x01v\x02\x02\x01t\x02\x01\x00\x00\x00\x00\x00\x00\x00\x05\x02\x01x"
	want = sealed(want)
	if got := payload.Text(x.Time, texts(x.Ops)); got != want {
		t.Errorf("P18: the payload is %q, want %q", got, want)
	}
}

// sealed is a text with its check behind it.
func sealed(text string) string {
	return string(numbers.Append([]byte(text), uint64(sums.Check([]byte(text))), 4))
}

// The greatest payload has as many bytes as Greatest says.
func TestGreatest(t *testing.T) {
	v := txt(strings.Repeat("x", api.MaxText))
	o := payload.Op{Kind: payload.Insert, Table: "abcdefgh", Row: []api.Value{v, v, v, v}}
	var ops []string
	for range api.MaxOps {
		ops = append(ops, o.Text())
	}
	text := payload.Text(1, ops)
	if _, ok := payload.Parse(text); !ok || len(text) != payload.Greatest {
		t.Errorf("P18: the greatest payload has %d bytes, want %d", len(text), payload.Greatest)
	}
	if _, ok := payload.Parse(payload.Text(1, append(ops, ops[0]))); ok {
		t.Error("P18: a payload with more ops than MaxOps")
	}
	if _, ok := payload.Parse(payload.Text(1, nil)); ok {
		t.Error("P18: a payload without an op")
	}
}

func TestNoPayload(t *testing.T) {
	for _, x := range examples() {
		text := payload.Text(x.Time, texts(x.Ops))
		for n := range len(text) {
			refuse(t, text[:n])
			if n != len(text)-4 {
				refuse(t, sealed(text[:n]))
			}
			for _, by := range []byte{1, 0x80, 0xff} {
				b := []byte(text)
				b[n] ^= by
				refuse(t, string(b))
			}
		}
		refuse(t, text+"\x00")
		refuse(t, sealed(text))
		refuse(t, sealed(text[:len(text)-4]+"\x00"))
	}
	refuse(t, "")
	refuse(t, strings.Repeat("\x00", 13))
	refuse(t, strings.Repeat("\xff", 2000))
}

func refuse(t *testing.T, text string) {
	t.Helper()
	if got, ok := payload.Parse(text); ok || !reflect.DeepEqual(got, payload.Transaction{}) {
		t.Errorf("P18: %q is taken for a payload: %v", text, got)
	}
}

// Ops that are of the form, but not right.
func TestWrongOps(t *testing.T) {
	const eight = "\x00\x00\x00\x00\x00\x00\x00\x05"
	for _, op := range []string{
		"\x00\x01t", "\x05\x01t\x01" + eight, "\xff\x01t", // no such kind
		"\x01\x00\x01\x01k\x01", "\x01\x09abcdefghi\x01\x01k\x01", "\x01\x01T\x01\x01k\x01", "\x04\x00\x01" + eight, "\x02\x01 \x01\x01" + eight, // no name
		"\x01\x01t\x00", "\x01\x01t\x01\x00\x01", "\x01\x01t\x01\x01K\x01", "\x01\x01t\x01\x01k\x00", "\x01\x01t\x01\x01k\x03", "\x01\x01t\x02\x01k\x01\x01k\x02", // no columns
		"\x01\x01t\x05\x01a\x01\x01b\x01\x01c\x01\x01d\x01\x01e\x01", "\x01\x01t\xff" + strings.Repeat("\x01k\x01", 255),
		"\x02\x01t\x00", "\x02\x01t\x05" + strings.Repeat("\x01"+eight, 5), "\x03\x01t\x00", "\x02\x01t\xff" + strings.Repeat("\x01"+eight, 255), // no row
		"\x02\x01t\x01\x00" + eight, "\x02\x01t\x01\x03" + eight, "\x02\x01t\x01\x02\x11" + strings.Repeat("x", 17), "\x04\x01t\x03\x00", "\x04\x01t\x02\xff" + strings.Repeat("x", 255), // no value
	} {
		refuse(t, sealed("\x00\x00\x00\x00\x00\x00\x00\x07\x01"+op))
	}
}

// Whatever is taken for a payload is told by the same bytes again.
func TestOneFormOnly(t *testing.T) {
	r := rand.New(rand.NewSource(1))
	taken := 0
	for range 200000 {
		x := examples()[r.Intn(4)]
		b := []byte(payload.Text(x.Time, texts(x.Ops)))
		b = b[:len(b)-4]
		for range 1 + r.Intn(3) {
			b[r.Intn(len(b))] = byte(r.Intn(20))
		}
		text := sealed(string(b))
		if got, ok := payload.Parse(text); ok {
			taken++
			if payload.Text(got.Time, texts(got.Ops)) != text {
				t.Fatalf("P18: %q is told as %q", text, payload.Text(got.Time, texts(got.Ops)))
			}
		}
	}
	if taken == 0 {
		t.Error("nothing was taken for a payload")
	}
}
