package image

import (
	"dockyard/api"
	"dockyard/codec"
	"dockyard/targets"
)

func putSession(w *codec.Writer, row api.SessionRow) {
	w.Long(row.Id)
	w.Long(row.Seq)
	putAnswer(w, row.Answer)
}

func readSession(r *codec.Reader) api.SessionRow {
	return api.SessionRow{Id: r.Long(), Seq: r.Long(), Answer: readAnswer(r)}
}

func putAnswer(w *codec.Writer, a api.Answer) {
	w.Byte(byte(a.Code))
	w.Long(a.Id)
	w.Long(a.Token)
	w.Long(a.Until)
	w.Text([]byte(a.Target))
	w.Text([]byte(a.Command))
}

func readAnswer(r *codec.Reader) api.Answer {
	return api.Answer{
		Code:    api.Errno(r.Byte()),
		Id:      r.Long(),
		Token:   r.Long(),
		Until:   r.Long(),
		Target:  string(r.Text(api.MaxName)),
		Command: string(r.Text(api.MaxText)),
	}
}

// putGraph writes the states without their number, since it is that of the targets.
func putGraph(w *codec.Writer, row api.GraphRow) {
	w.Long(row.Id)
	targets.Put(w, row.Graph.Targets)
	for _, s := range row.States {
		putState(w, s)
	}
}

func readGraph(r *codec.Reader) api.GraphRow {
	row := api.GraphRow{Id: r.Long(), Graph: api.Graph{Targets: targets.List(r)}}
	for range row.Graph.Targets {
		row.States = append(row.States, readState(r))
	}
	return row
}

func putState(w *codec.Writer, s api.State) {
	w.Byte(byte(s.State))
	w.Long(s.Token)
	w.Long(s.Until)
}

func readState(r *codec.Reader) api.State {
	return api.State{State: int(r.Byte()), Token: r.Long(), Until: r.Long()}
}
