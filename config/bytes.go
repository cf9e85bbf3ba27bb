package config

import (
	"dockyard/api"
	"dockyard/codec"
)

// Encode answers a configuration as bytes.
func Encode(c api.Config) ([]byte, api.Errno) {
	if e := Check(c); e != api.OK {
		return nil, e
	}
	w := codec.New()
	// A list that is valid is short, and so the Var of its length is just a Byte.
	codec.Put(w, c.Voters, putNode)
	codec.Put(w, c.Learners, putNode)
	return w.Bytes(), api.OK
}

// Decode answers the configuration that Encode writes as b.
func Decode(b []byte) (api.Config, api.Errno) {
	r := codec.Read(b)
	c := api.Config{
		Voters:   codec.List(r, api.MaxNodes, readNode),
		Learners: codec.List(r, api.MaxNodes, readNode),
	}
	if r.End() != api.OK || Check(c) != api.OK {
		return api.Config{}, api.ErrConfigForm
	}
	return c, api.OK
}

func putNode(w *codec.Writer, node int) { w.Byte(byte(node)) }

func readNode(r *codec.Reader) int { return int(r.Byte()) }
