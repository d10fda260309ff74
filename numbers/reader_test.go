package numbers_test

import (
	"strings"
	"testing"

	"daybook/numbers"
)

func TestReader(t *testing.T) {
	b := numbers.Append(nil, 258, 2)
	b = numbers.AppendText(b, "text")
	b = numbers.AppendText(b, "")
	r := &numbers.Reader{Rest: string(append(b, "rest"...))}
	if n, one, two := r.Number(2), r.Text(1, 4), r.Text(0, 4); n != 258 || one != "text" || two != "" {
		t.Errorf("a number and two texts came back as %d, %q, %q", n, one, two)
	}
	if got := r.Bytes(3); got != "res" || r.Rest != "t" || r.Wrong {
		t.Errorf("three bytes are %q, behind them %q, wrong: %v", got, r.Rest, r.Wrong)
	}
}

// What is not as it was asked for is told, and stays told.
func TestReaderTellsWhatIsWrong(t *testing.T) {
	for what, ask := range map[string]func(r *numbers.Reader) bool{
		"too few bytes":           func(r *numbers.Reader) bool { return r.Bytes(6) == "" },
		"too few for a number":    func(r *numbers.Reader) bool { return r.Number(8) == 0 },
		"a text that is too long": func(r *numbers.Reader) bool { return r.Text(0, 3) == "" },
		"one that is too short":   func(r *numbers.Reader) bool { return r.Text(5, 9) == "" },
		"one that is cut off":     func(r *numbers.Reader) bool { r.Bytes(1); return r.Text(0, 255) == "" },
	} {
		r := &numbers.Reader{Rest: "\x04abcd"}
		if !ask(r) || !r.Wrong {
			t.Errorf("%s: wrong: %v", what, r.Wrong)
		}
		r.Rest = "more"
		if r.Bytes(1); !r.Wrong {
			t.Errorf("%s is forgotten", what)
		}
	}
}

func TestLongestText(t *testing.T) {
	text := strings.Repeat("x", 255)
	r := &numbers.Reader{Rest: string(numbers.AppendText(nil, text))}
	if got := r.Text(0, 255); got != text || r.Wrong || r.Rest != "" {
		t.Errorf("a text of 255 bytes came back as %q", got)
	}
}
