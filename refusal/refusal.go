// Package refusal tells for which part of what it was handed in a call answers an error.
package refusal

// refusal wraps the error that a call answers with the part for which it does.
type refusal struct {
	part string
	err  error
}

// Of wraps err, which a call answers because of that part. Of no error, it is none either.
func Of(part string, err error) error {
	if err == nil {
		return nil
	}
	return refusal{part, err}
}

// Error tells the part, then what it wraps.
func (r refusal) Error() string {
	return r.part + ": " + r.err.Error()
}

// Unwrap lets errors.Is find the error's number.
func (r refusal) Unwrap() error {
	return r.err
}
