package config_test

import (
	"testing"

	"dockyard/api"
	"dockyard/config"
)

// majorities answers, as bits, the sets of a configuration's voters that are majorities of it.
func majorities(c api.Config) []int {
	voters := 0
	for _, n := range c.Voters {
		voters |= 1 << n
	}
	var l []int
	for some := range 256 {
		if some&^voters == 0 && config.Majority(c, members(some)) {
			l = append(l, some)
		}
	}
	return l
}

// P14.5: each majority ahead of a change and each majority behind it have a voter in common, who votes in both configurations.
func TestMajoritiesMeet(t *testing.T) {
	known := map[int][]int{}
	of := func(bits int) []int {
		if known[bits] == nil {
			known[bits] = majorities(with(members(bits)))
		}
		return known[bits]
	}
	done := map[int]int{}
	for voters := 1; voters < 256; voters++ {
		// All others learn, or none: so each change that there is comes up.
		for _, c := range []api.Config{with(members(voters)), with(members(voters), members(255-voters)...)} {
			for kind := api.AddLearner; kind <= api.Remove; kind++ {
				for node := range api.MaxNodes {
					next, e := config.Apply(c, api.Change{Kind: kind, Node: node})
					if e != api.OK {
						continue
					}
					done[kind]++
					bits := 0
					for _, n := range next.Voters {
						bits |= 1 << n
					}
					meet(t, of(voters), of(bits), voters&bits)
				}
			}
		}
	}
	if done[api.AddLearner] == 0 || done[api.Promote] == 0 || done[api.Remove] == 0 {
		t.Errorf("changes were done so often: %v", done)
	}
}

// meet fails the test unless each of these majorities has one of the common voters together with each of those.
func meet(t *testing.T, these, those []int, common int) {
	t.Helper()
	if len(these) == 0 || len(those) == 0 {
		t.Fatal("there is no majority")
	}
	for _, a := range these {
		for _, b := range those {
			if a&b&common == 0 {
				t.Fatalf("%v and %v have nobody in common of %v", members(a), members(b), members(common))
			}
		}
	}
}
