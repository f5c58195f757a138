package sharing_test

import (
	"bytes"
	"slices"
	"testing"

	"lagleash/sharing"
)

func TestNothingIsWrong(t *testing.T) {
	for name, put := range map[string]func(b []byte) []byte{
		"new memory":            func(b []byte) []byte { return slices.Concat(b, []byte{1, 2}) },
		"new memory, much room": func(b []byte) []byte { return append(append(make([]byte, 0, 500), b...), 1) },
		"refused":               func(b []byte) []byte { return nil },
	} {
		if wrong := sharing.Append(put); wrong != "" {
			t.Errorf("%s: %s", name, wrong)
		}
	}
}

func TestWhatIsWrong(t *testing.T) {
	kept := make([]byte, 300)
	var last []byte
	for name, put := range map[string]func(b []byte) []byte{
		"the language's append": func(b []byte) []byte { return append(b, 1) },
		"writes into them": func(b []byte) []byte {
			if len(b) > 0 {
				b[0] = 1
			}
			return bytes.Clone(b)
		},
		"writes into their room, and is refused": func(b []byte) []byte {
			if cap(b) > len(b) {
				b[:len(b)+1][len(b)] = 1
			}
			return nil
		},
		"hands them out":          func(b []byte) []byte { return b[:len(b):len(b)] },
		"hands out their room":    func(b []byte) []byte { return b[:0] },
		"copies their room":       func(b []byte) []byte { return bytes.Clone(b[:cap(b)])[:len(b)] },
		"answers memory it keeps": func(b []byte) []byte { return append(kept[:0], b...) },
		"answers the one ahead":   func(b []byte) []byte { last = append(last[:0], b...); return last },
		"hands them out once full": func(b []byte) []byte {
			if len(b) == cap(b) {
				return b
			}
			return bytes.Clone(b)
		},
	} {
		if sharing.Append(put) == "" {
			t.Errorf("%s: nothing is wrong", name)
		}
	}
}
