package payload

import "daybook/api"

// IsName tells whether a text is a name.
func IsName(text string) bool {
	if len(text) < 1 || len(text) > api.MaxName {
		return false
	}
	for i := range len(text) {
		if text[i] < 'a' || text[i] > 'z' {
			return false
		}
	}
	return true
}

// IsRight tells whether a value is right.
func IsRight(v api.Value) bool {
	switch v.Type {
	case api.Int:
		return v.S == ""
	case api.Text:
		return v.N == 0 && len(v.S) <= api.MaxText
	}
	return false
}

// AreRight tells whether a table can have these columns.
func AreRight(columns []api.Column) bool {
	if len(columns) < 1 || len(columns) > api.MaxColumns {
		return false
	}
	for i, c := range columns {
		if !IsName(c.Name) || c.Type != api.Int && c.Type != api.Text {
			return false
		}
		for _, ahead := range columns[:i] {
			if ahead.Name == c.Name {
				return false
			}
		}
	}
	return true
}
