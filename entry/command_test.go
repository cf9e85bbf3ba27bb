package entry_test

import (
	"bytes"
	"math"
	"reflect"
	"strings"
	"testing"

	"dockyard/api"
	"dockyard/entry"
)

// P4.2, P4.3: the table of kinds: the bytes of every kind, all its fields different, and all of them zero.
func TestCommandBytes(t *testing.T) {
	s, q := long("03"), long("04")
	for _, c := range []struct {
		c    api.Command
		want string
	}{
		{api.Command{Kind: api.CmdOpen, Session: 3}, "01" + s},
		{api.Command{Kind: api.CmdSubmit, Session: 3, Seq: 4, Graph: api.Graph{Targets: []api.Target{{}}}}, "02" + s + q + "01 00 00 00"},
		{api.Command{Kind: api.CmdClaim, Session: 3, Seq: 4}, "03" + s + q},
		{api.Command{Kind: api.CmdRenew, Session: 3, Seq: 4, Token: 5}, "04" + s + q + long("05")},
		{api.Command{Kind: api.CmdReport, Session: 3, Seq: 4, Token: 5, Good: true}, "05" + s + q + long("05") + "01"},
		{api.Command{Kind: api.CmdReport, Session: 3, Seq: 4, Token: 5}, "05" + s + q + long("05") + "00"},
		{api.Command{Kind: api.CmdCancel, Session: 3, Seq: 4, Id: 6}, "06" + s + q + long("06")},
		{api.Command{Kind: api.CmdAdvance, Time: 7}, "07" + long("07")},
		{api.Command{Kind: api.CmdAdvance, Time: math.MaxUint64}, "07 ff ff ff ff ff ff ff ff"},
		{api.Command{Kind: api.CmdOpen, Session: 0x0102030405060708}, "01 01 02 03 04 05 06 07 08"},
		{api.Command{Kind: api.CmdCancel, Session: 1 << 63, Seq: math.MaxUint64, Id: 1 << 32}, "06 80 00 00 00 00 00 00 00 ff ff ff ff ff ff ff ff 00 00 00 01 00 00 00 00"},

		{api.Command{Kind: api.CmdOpen}, "01" + long("00")},
		{api.Command{Kind: api.CmdSubmit}, "02" + long("00") + long("00") + "00"},
		{api.Command{Kind: api.CmdClaim}, "03" + long("00") + long("00")},
		{api.Command{Kind: api.CmdRenew}, "04" + strings.Repeat(long("00"), 3)},
		{api.Command{Kind: api.CmdReport}, "05" + strings.Repeat(long("00"), 3) + "00"},
		{api.Command{Kind: api.CmdCancel}, "06" + strings.Repeat(long("00"), 3)},
		{api.Command{Kind: api.CmdAdvance}, "07" + long("00")},
	} {
		isCommand(t, c.c, bytesOf(t, c.want))
	}
}

// P4.2, P4.3: graphs, those among them that layer 7 would refuse.
func TestGraphBytes(t *testing.T) {
	front := "02" + long("03") + long("01")
	for _, c := range []struct {
		c    api.Command
		want string
	}{
		{submit(), "00"},
		{submit([]api.Target{}...), "00"},
		{submit(api.Target{Needs: []string{}}), "01 00 00 00"},
		{
			submit(api.Target{Name: "a", Command: "cc a", Needs: []string{"b"}}, api.Target{Name: "b"}),
			"02 01 61 04 63 63 20 61 01 01 62 01 62 00 00",
		},
		{submit(api.Target{Name: "b", Needs: []string{"c", "", "a", "c"}}), "01 01 62 00 04 01 63 00 01 61 01 63"},
		{submit(api.Target{Command: "\x00\xff\xc3"}, api.Target{Name: "a", Needs: []string{"a"}}, api.Target{Name: "a"}), "03 00 03 00 ff c3 00 01 61 00 01 01 61 01 61 00 00"},
	} {
		isCommand(t, c.c, bytesOf(t, front+c.want))
	}
}

// eachField answers commands with one field, that isn't zero, each.
func eachField(kind int) map[string]api.Command {
	return map[string]api.Command{
		"Session": {Kind: kind, Session: 1},
		"Seq":     {Kind: kind, Seq: 1},
		"Graph":   {Kind: kind, Graph: api.Graph{Targets: []api.Target{{}}}},
		"Id":      {Kind: kind, Id: 1},
		"Token":   {Kind: kind, Token: 1},
		"Good":    {Kind: kind, Good: true},
		"Time":    {Kind: kind, Time: 1 << 63},
	}
}

// P4.2: for each kind, each field that the table mentions and each one that it does not.
func TestRightFields(t *testing.T) {
	for kind, has := range map[int]string{
		api.CmdOpen:    "Session",
		api.CmdSubmit:  "Session Seq Graph",
		api.CmdClaim:   "Session Seq",
		api.CmdRenew:   "Session Seq Token",
		api.CmdReport:  "Session Seq Token Good",
		api.CmdCancel:  "Session Seq Id",
		api.CmdAdvance: "Time",
	} {
		for name, c := range eachField(kind) {
			if strings.Contains(has, name) {
				isCommand(t, c, written(t, c))
			} else {
				notRight(t, "kind "+string(rune('0'+kind))+" with "+name, c)
			}
		}
		empty := api.Command{Kind: kind, Graph: api.Graph{Targets: []api.Target{}}}
		isCommand(t, empty, written(t, api.Command{Kind: kind}))
	}
}

// P4.2: there are seven kinds.
func TestRightKinds(t *testing.T) {
	for _, kind := range []int{0, -1, 8, 255, 256, 257, 263, 1 << 32, 1<<32 + 1, math.MaxInt, math.MinInt, math.MinInt + 7} {
		notRight(t, "a kind that is none", api.Command{Kind: kind})
		for name, c := range eachField(kind) {
			notRight(t, "a kind that is none, with "+name, c)
		}
	}
}

// P4.2: the limits of a graph, to the last byte.
func TestRightLimits(t *testing.T) {
	needs := make([]string, api.MaxNeeds)
	for i := range needs {
		needs[i] = text(api.MaxName)
	}
	largest := api.Target{Name: text(api.MaxName), Command: text(api.MaxText), Needs: needs}
	targets := make([]api.Target, api.MaxTargets)
	for i := range targets {
		targets[i] = largest
	}
	most := submit(targets...)
	isCommand(t, most, written(t, most))
	if size := len(written(t, most)); size != 17+1+32*(33+259+1+16*33) {
		t.Errorf("the largest graph has %d bytes", size)
	}

	last := func(x api.Target) api.Command {
		return submit(append(append([]api.Target{}, targets[1:]...), x)...)
	}
	lastNeed := append(append([]string{}, needs[1:]...), text(api.MaxName+1))
	notRight(t, "a target too many", submit(append(targets, api.Target{})...))
	notRight(t, "a name too long", last(api.Target{Name: text(api.MaxName + 1)}))
	notRight(t, "a command too long", last(api.Target{Command: text(api.MaxText + 1)}))
	notRight(t, "a need too many", last(api.Target{Needs: append(needs, "")}))
	notRight(t, "a need too long", last(api.Target{Needs: lastNeed}))
	notRight(t, "the first name too long", submit(api.Target{Name: text(api.MaxName + 1)}, api.Target{}))
	notRight(t, "the first need too long", submit(api.Target{Needs: []string{text(api.MaxName + 1), ""}}))
	// Bytes count, not characters.
	notRight(t, "a name of 17 letters in 34 bytes", submit(api.Target{Name: strings.Repeat("ä", 17)}))
	wide := submit(api.Target{Name: strings.Repeat("ä", 16)})
	isCommand(t, wide, written(t, wide))
}

// P4.3: bytes that are those of no command, most of them for one fault alone.
func TestCommandBytesRefused(t *testing.T) {
	two := long("03") + long("01")
	for name, s := range map[string]string{
		"no bytes":                   "",
		"kind 0":                     "00",
		"kind 0 with a number":       "00" + long("01"),
		"kind 8":                     "08" + long("01"),
		"kind 255":                   "ff" + long("01"),
		"a kind alone":               "01",
		"an open with a Seq":         "01" + two,
		"a claim without Seq":        "03" + long("03"),
		"a claim with a byte more":   "03" + two + "00",
		"a renewal with Good":        "04" + two + long("05") + "01",
		"a report without Good":      "05" + two + long("05"),
		"Good 2":                     "05" + two + long("05") + "02",
		"Good 255":                   "05" + two + long("05") + "ff",
		"a report with a byte more":  "05" + two + long("05") + "01 00",
		"a cancel without Id":        "06" + two,
		"an advance with two":        "07" + two,
		"no list":                    "02" + two,
		"a list cut off":             "02" + two + "02 00 00 00",
		"a list with a target more":  "02" + two + "01 00 00 00 00 00 00",
		"a list in 3 bytes":          "02" + two + "fd 00 01 00 00 00",
		"no list in 3 bytes":         "02" + two + "fd 00 00",
		"a name in 3 bytes":          "02" + two + "01 fd 00 01 61 00 00",
		"a name cut off":             "02" + two + "01 02 61",
		"no needs":                   "02" + two + "01 01 61 00",
		"needs in 5 bytes":           "02" + two + "01 01 61 00 fe 00 00 00 00",
		"needs cut off":              "02" + two + "01 01 61 00 02 01 62",
		"a need in 3 bytes":          "02" + two + "01 01 61 00 01 fd 00 00",
		"as many targets as can be":  "02" + two + "ff ff ff ff ff ff ff ff ff",
		"as many bytes as can be":    "02" + two + "01 ff ff ff ff ff ff ff ff ff",
		"as many needs as can be":    "02" + two + "01 00 00 ff ff ff ff ff ff ff ff ff",
		"a target too many":          "02" + two + "21" + strings.Repeat("00 00 00", 33),
		"a name too long":            "02" + two + "01 21" + strings.Repeat("61", 33) + "00 00",
		"a command too long":         "02" + two + "01 00 fd 01 01" + strings.Repeat("61", 257) + "00",
		"a need too many":            "02" + two + "01 00 00 11" + strings.Repeat("00", 17),
		"a need too long":            "02" + two + "01 00 00 01 21" + strings.Repeat("61", 33),
		"a submission with a Token":  "02" + two + "00" + long("05"),
		"a submission without a Seq": "02" + long("03") + "00",
	} {
		noCommand(t, name, bytesOf(t, s))
	}
	for n := range 256 {
		noCommand(t, "the same bytes", bytes.Repeat([]byte{byte(n)}, 400))
	}
}

// P4.3, R5: what is written is neither changed nor kept, and what is read is the caller's.
func TestCommandMemory(t *testing.T) {
	needs := append(make([]string, 0, 4), "b", "c")
	targets := append(make([]api.Target, 0, 4), api.Target{Name: "a", Command: "cc", Needs: needs}, api.Target{Name: "b"})
	c := submit(targets...)
	c.Graph.Targets = targets
	b := written(t, c)
	if !reflect.DeepEqual(needs[:4], []string{"b", "c", "", ""}) || !reflect.DeepEqual(targets[1:4], []api.Target{{Name: "b"}, {}, {}}) {
		t.Errorf("Command has changed the graph: %q, %+v", needs[:4], targets[:4])
	}
	want := bytes.Clone(b)
	fill(b)
	if again := written(t, c); !bytes.Equal(again, want) {
		t.Errorf("Command answers % x, then % x", want, again)
	}

	given := append(make([]byte, 0, 64), want...)
	first, _ := entry.ReadCommand(given)
	second, code := entry.ReadCommand(given)
	if behind := given[:64]; code != api.OK || !bytes.Equal(behind, append(bytes.Clone(want), make([]byte, 64-len(want))...)) {
		t.Errorf("ReadCommand answers %d, and the bytes are % x", code, behind)
	}
	fill(given)
	all := first.Graph.Targets[:cap(first.Graph.Targets)]
	for i := range all {
		l := all[i].Needs[:cap(all[i].Needs)]
		for k := range l {
			l[k] = "changed"
		}
		all[i] = api.Target{Name: "changed"}
	}
	if !sameCommand(second, c) {
		t.Errorf("the second command became %+v, want %+v", second, c)
	}
}

// P4.3, R5: no two lists of a command that was read share memory.
func TestNeedsApart(t *testing.T) {
	var targets []api.Target
	for _, needs := range [][]string{{"a"}, {}, {"b", "c", "d"}, {"e"}, nil, {"f", "g"}} {
		targets = append(targets, api.Target{Needs: needs})
	}
	c := submit(targets...)
	for i := range targets {
		got, code := entry.ReadCommand(written(t, c))
		if code != api.OK || !sameCommand(got, c) {
			t.Fatalf("ReadCommand answers %+v, %d", got, code)
		}
		l := got.Graph.Targets[i].Needs
		l = l[:cap(l)]
		for k := range l {
			l[k] = "changed"
		}
		got.Graph.Targets[i].Needs = c.Graph.Targets[i].Needs
		if !sameCommand(got, c) {
			t.Errorf("the needs of target %d are shared: %+v", i, got)
		}
	}
}
