package graph

import (
	"strings"

	"dockyard/api"
)

// Print answers the text of a graph.
func Print(g api.Graph) (string, api.Errno) {
	if e := Check(g); e != api.OK {
		return "", e
	}
	var s strings.Builder
	for _, t := range g.Targets {
		s.WriteString(t.Name + ":")
		for _, need := range t.Needs {
			s.WriteString(" " + need)
		}
		s.WriteString("\n")
		if t.Command != "" {
			s.WriteString("\t" + t.Command + "\n")
		}
	}
	return s.String(), api.OK
}

// Parse answers the graph that Print writes as s.
func Parse(s string) (api.Graph, api.Errno) {
	g, right := readGraph(s)
	if !right {
		return api.Graph{}, api.ErrGraphForm
	}
	if e := Check(g); e != api.OK {
		return api.Graph{}, e
	}
	return g, api.OK
}

// readGraph answers the graph of a text, be it valid or not, and whether the text has the form of one.
func readGraph(s string) (api.Graph, bool) {
	var g api.Graph
	for s != "" {
		line, rest, ended := strings.Cut(s, "\n")
		if !ended || !addLine(&g, line) {
			return api.Graph{}, false
		}
		s = rest
	}
	return g, true
}

// addLine adds what a line says to the graph of the lines ahead of it, and answers whether it has the form of one.
func addLine(g *api.Graph, line string) bool {
	if command, is := strings.CutPrefix(line, "\t"); is {
		return addCommand(g, command)
	}
	t, right := readTarget(line)
	if right {
		g.Targets = append(g.Targets, t)
	}
	return right
}

// addCommand gives the last target its command, if it has none yet.
func addCommand(g *api.Graph, command string) bool {
	last := len(g.Targets) - 1
	if last < 0 || command == "" || g.Targets[last].Command != "" {
		return false
	}
	g.Targets[last].Command = command
	return true
}

// readTarget answers the target of a line, without its command.
func readTarget(line string) (api.Target, bool) {
	name, rest, there := strings.Cut(line, ":")
	words := strings.Split(rest, " ")
	// Each need stands behind a blank, so that the first word is what stands ahead of all blanks: nothing.
	if !there || !isWord(name) || words[0] != "" {
		return api.Target{}, false
	}
	t := api.Target{Name: name}
	for _, need := range words[1:] {
		if !isWord(need) {
			return api.Target{}, false
		}
		t.Needs = append(t.Needs, need)
	}
	return t, true
}

// isWord answers whether a text can stand for a name. It lets more pass than isName does: what a name is made of is for Check to say, whose error may be another one.
func isWord(s string) bool {
	for _, r := range s {
		if r == ':' || r == ' ' || r == '\t' {
			return false
		}
	}
	return s != ""
}
