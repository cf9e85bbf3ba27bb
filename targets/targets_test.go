package targets_test

import (
	"reflect"
	"slices"
	"strings"
	"testing"

	"dockyard/api"
	"dockyard/codec"
	"dockyard/targets"
)

func text(n int) string { return strings.Repeat("x", n) }

// Targets come back, and what is behind them is left; a prefix of them is too short.
func TestThereAndBack(t *testing.T) {
	full := api.Target{Name: text(api.MaxName), Command: text(api.MaxText), Needs: slices.Repeat([]string{text(api.MaxName)}, api.MaxNeeds)}
	for bytes, l := range map[string][]api.Target{
		"\x00":             nil,
		"\x01\x00\x00\x00": {{}},
		"\x02\x01a\x02cc\x01\x01b" + "\x01b\x00\x00": {{Name: "a", Command: "cc", Needs: []string{"b"}}, {Name: "b"}},
		"": slices.Repeat([]api.Target{full}, api.MaxTargets),
	} {
		w := codec.New()
		targets.Put(w, l)
		b := w.Bytes()
		if bytes != "" && string(b) != bytes {
			t.Errorf("Put writes % x, want % x", b, bytes)
		}
		r := codec.Read(append(b, 9))
		if got := targets.List(r); r.Err() != api.OK || r.Left() != 1 || len(got) != len(l) || len(l) > 0 && !reflect.DeepEqual(got, l) {
			t.Errorf("List answers %v, %d, and leaves %d, want %v", got, r.Err(), r.Left(), l)
		}
		for n := 0; n < len(b); n += 1 + len(b)/100 {
			short := codec.Read(b[:n])
			if got := targets.List(short); got != nil || short.Err() != api.ErrCodecShort {
				t.Errorf("List of %d bytes answers %v, %d", n, got, short.Err())
			}
		}
	}
}

// What is beyond a limit is written, and not read.
func TestTooLong(t *testing.T) {
	for _, l := range [][]api.Target{
		make([]api.Target, api.MaxTargets+1),
		{{Name: text(api.MaxName + 1)}},
		{{}, {Command: text(api.MaxText + 1)}},
		{{Needs: make([]string, api.MaxNeeds+1)}},
		{{Needs: []string{"", text(api.MaxName + 1)}}},
	} {
		w := codec.New()
		targets.Put(w, l)
		r := codec.Read(w.Bytes())
		if got := targets.List(r); got != nil || r.Err() != api.ErrCodecLong {
			t.Errorf("List answers %d targets, %d, want none, ErrCodecLong", len(got), r.Err())
		}
	}
}
