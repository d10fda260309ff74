package numbers

// Reader takes a text apart, from its beginning on. What is not as it was asked for is told at the end, once for all: till then each call answers something.
type Reader struct {
	Rest  string
	Wrong bool // something was not as it was asked for
}

// Bytes are the next so many.
func (r *Reader) Bytes(n int) string {
	if n > len(r.Rest) {
		r.Wrong = true
		return ""
	}
	taken := r.Rest[:n]
	r.Rest = r.Rest[n:]
	return taken
}

// Number is the next one, in so many bytes.
func (r *Reader) Number(size int) int { return int(Read(r.Bytes(size))) }

// Text is the next one, which stands behind its length; that is at least least, at most most.
func (r *Reader) Text(least, most int) string {
	n := r.Number(1)
	if n < least || n > most {
		r.Wrong = true
		return ""
	}
	return r.Bytes(n)
}

// AppendText lays a text behind others, its length ahead of it (one byte).
func AppendText(b []byte, text string) []byte { return append(append(b, byte(len(text))), text...) }
