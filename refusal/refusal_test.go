package refusal

import (
	"errors"
	"testing"

	"ossuary/api"
)

// The error's number is found within, however deep, and no other one is; the parts are told from the outermost on.
func TestOf(t *testing.T) {
	one := Of("nonce", api.ErrAuditForm)
	two := Of("ask", one)
	for _, c := range []struct {
		err  error
		want string
	}{
		{one, "nonce: ossuary: error 1200"},
		{two, "ask: nonce: ossuary: error 1200"},
		{Of("", api.ErrAuditForm), ": ossuary: error 1200"},
	} {
		if c.err.Error() != c.want || !errors.Is(c.err, api.ErrAuditForm) || errors.Is(c.err, api.ErrFrameForm) || errors.Is(c.err, api.OK) {
			t.Errorf("%v; want %s", c.err, c.want)
		}
	}
	var number api.Errno
	if !errors.As(two, &number) || number != api.ErrAuditForm {
		t.Errorf("%d within; want %d", number, api.ErrAuditForm)
	}
}

// No error is none, whatever the part.
func TestOfNone(t *testing.T) {
	if err := Of("ask", nil); err != nil {
		t.Errorf("%v; want none", err)
	}
}
