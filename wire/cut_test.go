package wire

import (
	"testing"

	"corebank/api"
)

// A field that is cut out has no room behind it, so appending to it does not overwrite the next one.
func TestCutWithoutRoom(t *testing.T) {
	rest := []byte("2:ab0:3:c:d")
	for _, want := range []string{"ab", "", "c:d"} {
		field, behind, problem := cut(rest)
		if string(field) != want || cap(field) != len(field) || problem != api.OK {
			t.Errorf("cut(%q) is %q with room for %d bytes, %d; want %q", rest, field, cap(field), problem, want)
		}
		before := string(behind)
		if _ = append(field, "9:x"...); string(behind) != before {
			t.Errorf("what is behind %q is %q; want %q", want, behind, before)
		}
		rest = behind
	}
	if len(rest) != 0 {
		t.Errorf("%q is left", rest)
	}
}
